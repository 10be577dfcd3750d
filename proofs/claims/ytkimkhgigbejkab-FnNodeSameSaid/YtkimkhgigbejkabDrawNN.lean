/- The specification's draws of two nodes. -/
import Derived.Test.YtkimkhgigbejkabDrawNo
import Derived.Test.YtkimkhgigbejkabNdCp
namespace Go.Proofs.Ytkimkhgigbejkab
open Go.RowKit Go.Deep
/-- two nodes of at most 18 levels, in plain blocks of the call's own. -/
def DrawNN (w : World) (e : Ending) (w' : World) : Prop := ∃ (n : Nd) (h : Hd) (n' : Nd) (h' : Hd), e = .returned (.tuple #[.agg #[.int .i64 n.kind, .string n.data, .slice h.A n.ptrs.length h.a, .int .i64 n.size, .int .i64 n.count, .slice h.B n.items.length h.b], .agg #[.int .i64 n'.kind, .string n'.data, .slice h'.A n'.ptrs.length h'.a, .int .i64 n'.size, .int .i64 n'.count, .slice h'.B n'.items.length h'.b]]) ∧ NdAt w' (FromC w' w.heap.size) 18 n h ∧ totN 18 n ≤ 300000 ∧ NdAt w' (FromC w' w.heap.size) 18 n' h' ∧ totN 18 n' ≤ 300000 ∧ Below w.heap.size w w'
theorem fin12 {w w1 : World} {T : TypeId} {a0 a1 a2 a3 a4 a5 d0 d1 d2 d3 d4 d5 : Value} (h : w1.heap[w.heap.size]? = some (.cells #[a0, a1, a2, a3, a4, a5] T (0, 0))) (h' : w1.heap[w.heap.size + 1]? = some (.cells #[d0, d1, d2, d3, d4, d5] T (0, 0))) (hp : Below w.heap.size w w1) (v0 v1 v2 v3 v4 v5 u0 u1 u2 u3 u4 u5 : Value) :
    ∃ wf, ((((((((((((w1.setCell ⟨w.heap.size, 0, none⟩ v0).setCell ⟨w.heap.size, 1, none⟩ v1).setCell ⟨w.heap.size, 2, none⟩ v2).setCell ⟨w.heap.size, 3, none⟩ v3).setCell ⟨w.heap.size, 4, none⟩ v4).setCell ⟨w.heap.size, 5, none⟩ v5).setCell ⟨w.heap.size + 1, 0, none⟩ u0).setCell ⟨w.heap.size + 1, 1, none⟩ u1).setCell ⟨w.heap.size + 1, 2, none⟩ u2).setCell ⟨w.heap.size + 1, 3, none⟩ u3).setCell ⟨w.heap.size + 1, 4, none⟩ u4).setCell ⟨w.heap.size + 1, 5, none⟩ u5) = wf ∧
      wf.heap[w.heap.size]? = some (.cells #[v0, v1, v2, v3, v4, v5] T (0, 0)) ∧ wf.heap[w.heap.size + 1]? = some (.cells #[u0, u1, u2, u3, u4, u5] T (0, 0)) ∧ Below w.heap.size w wf ∧ Upon (w.heap.size + 2) w1 wf := by
  obtain ⟨x, hx, hr, hb, hu⟩ := fin6 h hp (Nat.le_refl _) v0 v1 v2 v3 v4 v5
  rw [hx]
  have hr2 := (hu.block (w.heap.size + 1) (Nat.le_refl _) (row_lt h')).trans h'
  obtain ⟨y, hy, hr3, hb3, hu3⟩ := fin6 hr2 hb (show w.heap.size ≤ w.heap.size + 1 by omega) u0 u1 u2 u3 u4 u5
  refine ⟨y, hy, ?_, hr3, hb3, ⟨Nat.le_trans hu.size hu3.size, fun k h1 h2 => (hu3.block k h1 (by have := hu.size; omega)).trans (hu.block k (by omega) h2)⟩⟩
  have hk : ∀ (W : World) (i : Nat) (u : Value), (W.setCell ⟨w.heap.size + 1, i, none⟩ u).heap[w.heap.size]? = W.heap[w.heap.size]? := fun W i u => Below.heap_setCell W ⟨w.heap.size + 1, i, none⟩ u _ (by simp)
  rw [← hy, hk, hk, hk, hk, hk, hk]
  exact hr
set_option maxHeartbeats 8000000 in
set_option maxRecDepth 100000 in
theorem drawNodeSame_any (a : Option Addr) (len cap : Nat) (w : World) (h : Arg w a len cap) :
    Calls Try.prog 7 #[.slice a len cap] w (DrawNN w) := by
  have hz0 : (((w.alloc (.cells #[.int .i64 0, .string { data := #[] }, .slice none 0 0, .int .i64 0, .int .i64 0, .slice none 0 0] nodeT)).alloc (.cells #[.int .i64 0, .string { data := #[] }, .slice none 0 0, .int .i64 0, .int .i64 0, .slice none 0 0] nodeT))).heap[w.heap.size]? = some (.cells #[.int .i64 0, .string { data := #[] }, .slice none 0 0, .int .i64 0, .int .i64 0, .slice none 0 0] nodeT (0, 0)) := (Below.heap_alloc _ _ _ (by simp)).trans (heap_alloc_new w _)
  have hy0 : (((w.alloc (.cells #[.int .i64 0, .string { data := #[] }, .slice none 0 0, .int .i64 0, .int .i64 0, .slice none 0 0] nodeT)).alloc (.cells #[.int .i64 0, .string { data := #[] }, .slice none 0 0, .int .i64 0, .int .i64 0, .slice none 0 0] nodeT))).heap[w.heap.size + 1]? = some (.cells #[.int .i64 0, .string { data := #[] }, .slice none 0 0, .int .i64 0, .int .i64 0, .slice none 0 0] nodeT (0, 0)) := by have := heap_alloc_new (w.alloc (.cells #[.int .i64 0, .string { data := #[] }, .slice none 0 0, .int .i64 0, .int .i64 0, .slice none 0 0] nodeT)) (.cells #[.int .i64 0, .string { data := #[] }, .slice none 0 0, .int .i64 0, .int .i64 0, .slice none 0 0] nodeT); rwa [show (w.alloc (.cells #[.int .i64 0, .string { data := #[] }, .slice none 0 0, .int .i64 0, .int .i64 0, .slice none 0 0] nodeT)).heap.size = w.heap.size + 1 by simp] at this
  have hb0 : Below w.heap.size w (((w.alloc (.cells #[.int .i64 0, .string { data := #[] }, .slice none 0 0, .int .i64 0, .int .i64 0, .slice none 0 0] nodeT)).alloc (.cells #[.int .i64 0, .string { data := #[] }, .slice none 0 0, .int .i64 0, .int .i64 0, .slice none 0 0] nodeT))) := ((Below.refl _ w).alloc (Nat.le_refl _) _).alloc (by simp) _
  have hs0 : (((w.alloc (.cells #[.int .i64 0, .string { data := #[] }, .slice none 0 0, .int .i64 0, .int .i64 0, .slice none 0 0] nodeT)).alloc (.cells #[.int .i64 0, .string { data := #[] }, .slice none 0 0, .int .i64 0, .int .i64 0, .slice none 0 0] nodeT))).heap.size = w.heap.size + 2 := by simp
  have HCD := Lib.hid (code_alloc (code_alloc h.1 (.cells #[.int .i64 0, .string { data := #[] }, .slice none 0 0, .int .i64 0, .int .i64 0, .slice none 0 0] nodeT)) (.cells #[.int .i64 0, .string { data := #[] }, .slice none 0 0, .int .i64 0, .int .i64 0, .slice none 0 0] nodeT))
  have hc1 := h.2.1
  have hc2 := h.2.2
  clear h
  go_enter Try.func7, Try.ntmps7
  go_wp2_with fail
  generalize ((w.alloc (.cells #[.int .i64 0, .string { data := #[] }, .slice none 0 0, .int .i64 0, .int .i64 0, .slice none 0 0] nodeT)).alloc (.cells #[.int .i64 0, .string { data := #[] }, .slice none 0 0, .int .i64 0, .int .i64 0, .slice none 0 0] nodeT)) = W0 at *
  refine (l1Open_any a len cap _ HCD.out hc1 hc2).mono ?_
  rintro e w1 ⟨R, rfl, hR, hrd, hb1⟩
  have hz1 := (hb1.block _ (row_lt hz0)).trans hz0
  have hy1 := (hb1.block _ (row_lt hy0)).trans hy0
  have hs1 := hb1.size
  have HB1 := Lib.hid (hb0.trans (hb1.mono (by omega)))
  have HRD1 := Lib.hid hrd
  have hRl := hrd.lt
  clear hz0 hy0 hb0 hb1 HCD hc1 hc2 hrd
  go_wp2_with fail
  refine (l13AnyNode_any R 0 _ HRD1.out (by omega)).mono ?_
  rintro e w2 ⟨n, hh, rfl, hn, ht, hp2⟩
  have hz2 := pick_rowN hz1 hp2 (by omega)
  have hy2 := pick_rowN hy1 hp2 (by omega)
  have hs2 := hp2.2.size
  have HB2 := Lib.hid (opened_below (show w.heap.size ≤ R by omega) HB1.out hp2)
  have hba : Below w2.heap.size w2 (w2.alloc (.cells #[.int .i64 n.kind, .string n.data, .slice hh.A n.ptrs.length hh.a, .int .i64 n.size, .int .i64 n.count, .slice hh.B n.items.length hh.b] nodeT)) := (Below.refl _ _).alloc (Nat.le_refl _) _
  have HX3 := Lib.hid (heap_alloc_new w2 (.cells #[.int .i64 n.kind, .string n.data, .slice hh.A n.ptrs.length hh.a, .int .i64 n.size, .int .i64 n.count, .slice hh.B n.items.length hh.b] nodeT))
  have HZ3 := Lib.hid ((hba.block _ (row_lt hz2)).trans hz2)
  have HY3 := Lib.hid ((hba.block _ (row_lt hy2)).trans hy2)
  have HB3 := Lib.hid (HB2.out.trans (hba.mono HB2.out.size))
  have HRD3 := Lib.hid (hp2.1.below hba)
  have HN3 := Lib.hid (hn.belowC hba)
  have hs3 : (w2.alloc (.cells #[.int .i64 n.kind, .string n.data, .slice hh.A n.ptrs.length hh.a, .int .i64 n.size, .int .i64 n.count, .slice hh.B n.items.length hh.b] nodeT)).heap.size = w2.heap.size + 1 := by simp
  have HT := Lib.hid ht.1
  clear hz1 hy1 hz2 hy2 hn ht hba HRD1 hp2
  go_wp2_with fail
  generalize w2.alloc (.cells #[.int .i64 n.kind, .string n.data, .slice hh.A n.ptrs.length hh.a, .int .i64 n.size, .int .i64 n.count, .slice hh.B n.items.length hh.b] nodeT) = W3 at *
  refine (pick_any R (0 + 13000) 2 _ HRD3.out (by omega)).mono ?_
  rintro e w4 ⟨v, ⟨hv0, hv1⟩, rfl, hp4⟩
  have HX4 := Lib.hid (pick_rowN HX3.out hp4 (by omega))
  have HZ4 := Lib.hid (pick_rowN HZ3.out hp4 (by omega))
  have HY4 := Lib.hid (pick_rowN HY3.out hp4 (by omega))
  have hs4 := hp4.2.size
  have HB4 := Lib.hid (opened_below (show w.heap.size ≤ R by omega) HB3.out hp4)
  have HRD4 := Lib.hid hp4.1
  have HN4 := Lib.hid (HN3.out.picked hp4 (by omega))
  have hv : v = 0 ∨ v = 1 := by omega
  clear hv0 hv1 hp4
  obtain ⟨c0, c1, c2, c3, c4, c5⟩ := cells6 HX4.out
  have hd4 : (w4.drew).heap.size = w4.heap.size := rfl
  rcases hv with rfl | rfl
  · have HC := Lib.hid (fun (W : World) (hW : Below w4.heap.size w4 W) => cpN_any 18 n hh W _ (HN4.out.belowC hW) (show totN 18 n ≤ 2000000 by have := HT.out; omega))
    go_wp2_with fail
    go_region_with (go_at_call 27; (with_reducible refine (HC.out _ (by exact (Below.mk rfl rfl rfl (Nat.le_refl _) (fun _ _ => rfl) : Below w4.heap.size w4 w4.drew))).mono ?_); rintro e w5 ⟨hy, rfl, hm, hb5⟩; have HZ5 := Lib.hid ((hb5.block _ (row_lt HZ4.out)).trans HZ4.out); have HY5 := Lib.hid ((hb5.block _ (row_lt HY4.out)).trans HY4.out); obtain ⟨q0, q1, q2, q3, q4, q5⟩ := cells6 ((hb5.block _ (row_lt HX4.out)).trans HX4.out); obtain ⟨z0, z1, z2, z3, z4, z5⟩ := cells6 HZ5.out; obtain ⟨y0, y1, y2, y3, y4, y5⟩ := cells6 HY5.out; have zf := row_free HZ5.out; have yf := row_free HY5.out)
    all_goals
      have hb5' : Below w4.heap.size w4 w5 := ⟨hb5.os, hb5.tape, hb5.output, hb5.size, hb5.block⟩
      have HB5 := Lib.hid (HB4.out.trans (hb5'.mono HB4.out.size))
      have HN5 := Lib.hid (HN4.out.belowC hb5')
      have HM5 := Lib.hid (hm.fromC (show w1.heap.size ≤ w4.drew.heap.size by omega))
      have HT2 := HT
      clear hb5 hb5' hm
      clear c0 c1 c2 c3 c4 c5 q0 q1 q2 q3 q4 q5 z0 z1 z2 z3 z4 z5 y0 y1 y2 y3 y4 y5
      clear zf yf
      go_wp2_with fail
      obtain ⟨wf, hwf, hrw, hrw2, hbf, huw⟩ := fin12 HZ5.out HY5.out HB5.out (.int .i64 n.kind) (.string n.data) (.slice hh.A n.ptrs.length hh.a) (.int .i64 n.size) (.int .i64 n.count) (.slice hh.B n.items.length hh.b) (.int .i64 n.kind) (.string n.data) (.slice hy.A n.ptrs.length hy.a) (.int .i64 n.size) (.int .i64 n.count) (.slice hy.B n.items.length hy.b)
      rw [hwf]
      obtain ⟨e0, e1, e2, e3, e4, e5⟩ := cells6 hrw
      obtain ⟨g0, g1, g2, g3, g4, g5⟩ := cells6 hrw2
      exact bodyPost_ret (v := .tuple #[.agg #[.int .i64 n.kind, .string n.data, .slice hh.A n.ptrs.length hh.a, .int .i64 n.size, .int .i64 n.count, .slice hh.B n.items.length hh.b], .agg #[.int .i64 n.kind, .string n.data, .slice hy.A n.ptrs.length hy.a, .int .i64 n.size, .int .i64 n.count, .slice hy.B n.items.length hy.b]])
        (by simp [results, Try.results7, go_sem, e0, e1, e2, e3, e4, e5, g0, g1, g2, g3, g4, g5]) rfl
        ⟨n, hh, n, hy, rfl, ((HN5.out.fromC (show w.heap.size + 2 ≤ w1.heap.size by omega)).uponC huw).fromC (by omega), HT.out, ((HM5.out.fromC (show w.heap.size + 2 ≤ w1.heap.size by omega)).uponC huw).fromC (by omega), HT2.out, hbf⟩
  · have HC := Lib.hid (fun (W : World) (hW : Below w4.heap.size w4 W) => l13AnyNode_any R (0 + 13000 + 1) W (HRD4.out.below hW) (by omega))
    unfold NdP at HC
    go_wp2_with fail
    go_region_with (go_at_call 25; (with_reducible refine (HC.out _ (by exact (Below.mk rfl rfl rfl (Nat.le_refl _) (fun _ _ => rfl) : Below w4.heap.size w4 w4.drew))).mono ?_); rintro e w5 ⟨n', hy, rfl, hm, ht2, hp5⟩; have HZ5 := Lib.hid (pick_rowN (w := w4.drew) HZ4.out hp5 (by omega)); have HY5 := Lib.hid (pick_rowN (w := w4.drew) HY4.out hp5 (by omega)); obtain ⟨q0, q1, q2, q3, q4, q5⟩ := cells6 (pick_rowN (w := w4.drew) HX4.out hp5 (by omega)); obtain ⟨z0, z1, z2, z3, z4, z5⟩ := cells6 HZ5.out; obtain ⟨y0, y1, y2, y3, y4, y5⟩ := cells6 HY5.out; have zf := row_free HZ5.out; have yf := row_free HY5.out)
    all_goals
      have hp5' : Picked w4 R (0 + 13000 + 1 + 13000) w5 := ⟨hp5.1, ⟨hp5.2.os, hp5.2.tape, hp5.2.output, hp5.2.size, hp5.2.block⟩⟩
      have HB5 := Lib.hid (opened_below (show w.heap.size ≤ R by omega) HB4.out hp5')
      have HN5 := Lib.hid (HN4.out.picked hp5' (by omega))
      have HM5 := Lib.hid (hm.fromC (show w1.heap.size ≤ w4.drew.heap.size by omega))
      have HT2 := Lib.hid ht2.1
      clear hp5 hp5' hm ht2
      clear c0 c1 c2 c3 c4 c5 q0 q1 q2 q3 q4 q5 z0 z1 z2 z3 z4 z5 y0 y1 y2 y3 y4 y5
      clear zf yf
      go_wp2_with fail
      obtain ⟨wf, hwf, hrw, hrw2, hbf, huw⟩ := fin12 HZ5.out HY5.out HB5.out (.int .i64 n.kind) (.string n.data) (.slice hh.A n.ptrs.length hh.a) (.int .i64 n.size) (.int .i64 n.count) (.slice hh.B n.items.length hh.b) (.int .i64 n'.kind) (.string n'.data) (.slice hy.A n'.ptrs.length hy.a) (.int .i64 n'.size) (.int .i64 n'.count) (.slice hy.B n'.items.length hy.b)
      rw [hwf]
      obtain ⟨e0, e1, e2, e3, e4, e5⟩ := cells6 hrw
      obtain ⟨g0, g1, g2, g3, g4, g5⟩ := cells6 hrw2
      exact bodyPost_ret (v := .tuple #[.agg #[.int .i64 n.kind, .string n.data, .slice hh.A n.ptrs.length hh.a, .int .i64 n.size, .int .i64 n.count, .slice hh.B n.items.length hh.b], .agg #[.int .i64 n'.kind, .string n'.data, .slice hy.A n'.ptrs.length hy.a, .int .i64 n'.size, .int .i64 n'.count, .slice hy.B n'.items.length hy.b]])
        (by simp [results, Try.results7, go_sem, e0, e1, e2, e3, e4, e5, g0, g1, g2, g3, g4, g5]) rfl
        ⟨n, hh, n', hy, rfl, ((HN5.out.fromC (show w.heap.size + 2 ≤ w1.heap.size by omega)).uponC huw).fromC (by omega), HT.out, ((HM5.out.fromC (show w.heap.size + 2 ≤ w1.heap.size by omega)).uponC huw).fromC (by omega), HT2.out, hbf⟩
end Go.Proofs.Ytkimkhgigbejkab
