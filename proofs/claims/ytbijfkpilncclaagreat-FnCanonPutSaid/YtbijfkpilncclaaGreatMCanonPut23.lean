/- Texts of the proof of the law FnCanonPut, side by side: part 23. -/
import Derived.Test.YtbijfkpilncclaaGreatMCanonPut00
import Derived.Test.YtbijfkpilncclaaGreatMCanonPut01
import Derived.Test.YtbijfkpilncclaaGreatMCanonPut02
import Derived.Test.YtbijfkpilncclaaGreatMCanonPut03
import Derived.Test.YtbijfkpilncclaaGreatMCanonPut04
import Derived.Test.YtbijfkpilncclaaGreatMCanonPut05
import Derived.Test.YtbijfkpilncclaaGreatMCanonPut06
import Derived.Test.YtbijfkpilncclaaGreatMCanonPut07
import Derived.Test.YtbijfkpilncclaaGreatMCanonPut08
import Derived.Test.YtbijfkpilncclaaGreatMCanonPut09
import Derived.Test.YtbijfkpilncclaaGreatMCanonPut10
import Derived.Test.YtbijfkpilncclaaGreatMCanonPut11
import Derived.Test.YtbijfkpilncclaaGreatMCanonPut12
import Derived.Test.YtbijfkpilncclaaGreatMCanonPut13
import Derived.Test.YtbijfkpilncclaaGreatMCanonPut14
import Derived.Test.YtbijfkpilncclaaGreatMCanonPut15
import Derived.Test.YtbijfkpilncclaaGreatMCanonPut16
import Derived.Test.YtbijfkpilncclaaGreatMCanonPut17
import Derived.Test.YtbijfkpilncclaaGreatMCanonPut18
import Derived.Test.YtbijfkpilncclaaGreatMCanonPut19
import Derived.Test.YtbijfkpilncclaaGreatMCanonPut20
import Derived.Test.YtbijfkpilncclaaGreatMCanonPut21
import Derived.Test.YtbijfkpilncclaaGreatMCanonPut22
namespace Go.Proofs.YtbijfkpilncclaaGreat
open Go.RowKit Go.Deep
theorem fin12a {w w1 : World} {T : TypeId} {a0 a1 a2 a3 a4 a5 d0 d1 d2 d3 d4 d5 : Value} (h : w1.heap[w.heap.size]? = some (.cells #[a0, a1, a2, a3, a4, a5] T (0, 0))) (h' : w1.heap[w.heap.size + 1]? = some (.cells #[d0, d1, d2, d3, d4, d5] T (0, 0))) (hp : Below w.heap.size w w1) (v0 v1 v2 v3 v4 v5 u0 u1 u2 u3 u4 u5 : Value) :
    ∃ wf, ((((((((((((w1.setCell ⟨w.heap.size, 0, none⟩ v0).setCell ⟨w.heap.size, 1, none⟩ v1).setCell ⟨w.heap.size, 2, none⟩ v2).setCell ⟨w.heap.size, 3, none⟩ v3).setCell ⟨w.heap.size, 4, none⟩ v4).setCell ⟨w.heap.size, 5, none⟩ v5).setCell ⟨w.heap.size + 1, 0, none⟩ u0).setCell ⟨w.heap.size + 1, 1, none⟩ u1).setCell ⟨w.heap.size + 1, 2, none⟩ u2).setCell ⟨w.heap.size + 1, 3, none⟩ u3).setCell ⟨w.heap.size + 1, 4, none⟩ u4).setCell ⟨w.heap.size + 1, 5, none⟩ u5) = wf ∧
      wf.heap[w.heap.size]? = some (.cells #[v0, v1, v2, v3, v4, v5] T (0, 0)) ∧ wf.heap[w.heap.size + 1]? = some (.cells #[u0, u1, u2, u3, u4, u5] T (0, 0)) ∧ Below w.heap.size w wf ∧ Upon (w.heap.size + 2) w1 wf := by
  obtain ⟨x, hx, hr, hb, hu⟩ := fin6 h hp (Nat.le_refl _) v0 v1 v2 v3 v4 v5
  rw [hx]
  have hr2 := (hu.block (w.heap.size + 1) (Nat.le_refl _) (row_lt h')).trans h'
  obtain ⟨y, hy, hr3, hb3, hu3⟩ := fin6 hr2 hb (show w.heap.size ≤ w.heap.size + 1 by omega) u0 u1 u2 u3 u4 u5
  refine ⟨y, hy, ?_, hr3, hb3, ⟨Nat.le_trans hu.size hu3.size, fun k h1 h2 => (hu3.block k h1 (by have := hu.size; omega)).trans (hu.block k (by omega) h2)⟩⟩
  have hk : ∀ (W : World) (i : Nat) (u : Value), (W.setCell ⟨w.heap.size + 1, i, none⟩ u).heap[w.heap.size]? = W.heap[w.heap.size]? := fun W i u => Below.heap_setCell W ⟨w.heap.size + 1, i, none⟩ u _ (by simp)
  rw [← hy, hk, hk, hk, hk, hk, hk]
  exact hr
set_option maxHeartbeats 8000000 in
set_option maxRecDepth 100000 in
theorem drawAlike_any (a : Option Addr) (len cap : Nat) (w : World) (h : Arg w a len cap) :
    Calls Tryz.prog 18 #[.slice a len cap] w (DrawAl w) := by
  have hz0 : (((w.alloc (.cells #[.int .i64 0, .string { data := #[] }, .slice none 0 0, .int .i64 0, .int .i64 0, .slice none 0 0] nodeT)).alloc (.cells #[.int .i64 0, .string { data := #[] }, .slice none 0 0, .int .i64 0, .int .i64 0, .slice none 0 0] nodeT))).heap[w.heap.size]? = some (.cells #[.int .i64 0, .string { data := #[] }, .slice none 0 0, .int .i64 0, .int .i64 0, .slice none 0 0] nodeT (0, 0)) := (Below.heap_alloc _ _ _ (by simp)).trans (heap_alloc_new w _)
  have hy0 : (((w.alloc (.cells #[.int .i64 0, .string { data := #[] }, .slice none 0 0, .int .i64 0, .int .i64 0, .slice none 0 0] nodeT)).alloc (.cells #[.int .i64 0, .string { data := #[] }, .slice none 0 0, .int .i64 0, .int .i64 0, .slice none 0 0] nodeT))).heap[w.heap.size + 1]? = some (.cells #[.int .i64 0, .string { data := #[] }, .slice none 0 0, .int .i64 0, .int .i64 0, .slice none 0 0] nodeT (0, 0)) := by have := heap_alloc_new (w.alloc (.cells #[.int .i64 0, .string { data := #[] }, .slice none 0 0, .int .i64 0, .int .i64 0, .slice none 0 0] nodeT)) (.cells #[.int .i64 0, .string { data := #[] }, .slice none 0 0, .int .i64 0, .int .i64 0, .slice none 0 0] nodeT); rwa [show (w.alloc (.cells #[.int .i64 0, .string { data := #[] }, .slice none 0 0, .int .i64 0, .int .i64 0, .slice none 0 0] nodeT)).heap.size = w.heap.size + 1 by simp] at this
  have hb0 : Below w.heap.size w (((w.alloc (.cells #[.int .i64 0, .string { data := #[] }, .slice none 0 0, .int .i64 0, .int .i64 0, .slice none 0 0] nodeT)).alloc (.cells #[.int .i64 0, .string { data := #[] }, .slice none 0 0, .int .i64 0, .int .i64 0, .slice none 0 0] nodeT))) := ((Below.refl _ w).alloc (Nat.le_refl _) _).alloc (by simp) _
  have hs0 : (((w.alloc (.cells #[.int .i64 0, .string { data := #[] }, .slice none 0 0, .int .i64 0, .int .i64 0, .slice none 0 0] nodeT)).alloc (.cells #[.int .i64 0, .string { data := #[] }, .slice none 0 0, .int .i64 0, .int .i64 0, .slice none 0 0] nodeT))).heap.size = w.heap.size + 2 := by simp
  have HCD := Lib.hid (code_alloc (code_alloc h.1 (.cells #[.int .i64 0, .string { data := #[] }, .slice none 0 0, .int .i64 0, .int .i64 0, .slice none 0 0] nodeT)) (.cells #[.int .i64 0, .string { data := #[] }, .slice none 0 0, .int .i64 0, .int .i64 0, .slice none 0 0] nodeT))
  have hc1 := h.2.1
  have hc2 := h.2.2
  clear h
  go_enter Tryz.func18, Tryz.ntmps18
  go_wp2_with fail
  generalize ((w.alloc (.cells #[.int .i64 0, .string { data := #[] }, .slice none 0 0, .int .i64 0, .int .i64 0, .slice none 0 0] nodeT)).alloc (.cells #[.int .i64 0, .string { data := #[] }, .slice none 0 0, .int .i64 0, .int .i64 0, .slice none 0 0] nodeT)) = W0 at *
  refine (l1Open_any a len cap _ HCD.out hc1 hc2).mono ?_
  rintro e w1 ⟨R, rfl, hR, hrd, hb1⟩
  have hz1 := (hb1.block _ (row_lt hz0)).trans hz0
  have hy1 := (hb1.block _ (row_lt hy0)).trans hy0
  have hs1 := hb1.size
  have HB1 := Lib.hid (hb0.trans (hb1.mono (by omega)))
  have HRD1 := Lib.hid hrd
  have hRl := hrd.lt
  clear hz0 hy0 hb0 hb1 HCD hc1 hc2 hrd
  go_wp2_with fail
  refine (l13AnyNode_any R 0 _ HRD1.out (by omega)).mono ?_
  rintro e w2 ⟨n, hh, rfl, hn, ht, hp2⟩
  have hz2 := pick_rowN hz1 hp2 (by omega)
  have hy2 := pick_rowN hy1 hp2 (by omega)
  have hs2 := hp2.2.size
  have HB2 := Lib.hid (opened_below (show w.heap.size ≤ R by omega) HB1.out hp2)
  have hba : Below w2.heap.size w2 (w2.alloc (.cells #[.int .i64 n.kind, .string n.data, .slice hh.A n.ptrs.length hh.a, .int .i64 n.size, .int .i64 n.count, .slice hh.B n.items.length hh.b] nodeT)) := (Below.refl _ _).alloc (Nat.le_refl _) _
  have HX3 := Lib.hid (heap_alloc_new w2 (.cells #[.int .i64 n.kind, .string n.data, .slice hh.A n.ptrs.length hh.a, .int .i64 n.size, .int .i64 n.count, .slice hh.B n.items.length hh.b] nodeT))
  have HZ3 := Lib.hid ((hba.block _ (row_lt hz2)).trans hz2)
  have HY3 := Lib.hid ((hba.block _ (row_lt hy2)).trans hy2)
  have HB3 := Lib.hid (HB2.out.trans (hba.mono HB2.out.size))
  have HRD3 := Lib.hid (hp2.1.below hba)
  have HN3 := Lib.hid (hn.belowC hba)
  have hs3 : (w2.alloc (.cells #[.int .i64 n.kind, .string n.data, .slice hh.A n.ptrs.length hh.a, .int .i64 n.size, .int .i64 n.count, .slice hh.B n.items.length hh.b] nodeT)).heap.size = w2.heap.size + 1 := by simp
  have HT : Hid (totN 18 n ≤ 300000 ∧ n.items.length ≤ 1000) := Lib.hid ⟨ht.1, ht.2.2.2⟩
  clear hz1 hy1 hz2 hy2 hn ht hba HRD1 hp2
  go_wp2_with fail
  generalize w2.alloc (.cells #[.int .i64 n.kind, .string n.data, .slice hh.A n.ptrs.length hh.a, .int .i64 n.size, .int .i64 n.count, .slice hh.B n.items.length hh.b] nodeT) = W3 at *
  have HCP := Lib.hid (cpN_any 18 n hh W3 _ HN3.out (show totN 18 n ≤ 2000000 by have := HT.out.1; omega))
  unfold NewO at HCP
  refine HCP.out.mono ?_
  rintro e w4 ⟨hc, bs, rfl, hown, hnd, hge, hb4⟩
  have hba : Below w4.heap.size w4 (w4.alloc (.cells #[.int .i64 n.kind, .string n.data, .slice hc.A n.ptrs.length hc.a, .int .i64 n.size, .int .i64 n.count, .slice hc.B n.items.length hc.b] nodeT)) := (Below.refl _ _).alloc (Nat.le_refl _) _
  have HXX5 := Lib.hid (heap_alloc_new w4 (.cells #[.int .i64 n.kind, .string n.data, .slice hc.A n.ptrs.length hc.a, .int .i64 n.size, .int .i64 n.count, .slice hc.B n.items.length hc.b] nodeT))
  have HX5 := Lib.hid ((hba.block _ (by have := hb4.size; have := row_lt HX3.out; omega)).trans ((hb4.block _ (row_lt HX3.out)).trans HX3.out))
  have HZ5 := Lib.hid ((hba.block _ (by have := hb4.size; have := row_lt HZ3.out; omega)).trans ((hb4.block _ (row_lt HZ3.out)).trans HZ3.out))
  have HY5 := Lib.hid ((hba.block _ (by have := hb4.size; have := row_lt HY3.out; omega)).trans ((hb4.block _ (row_lt HY3.out)).trans HY3.out))
  have hbs := HB3.out.trans (hb4.mono HB3.out.size)
  have HB5 := Lib.hid (hbs.trans (hba.mono hbs.size))
  have HRD5 := Lib.hid ((HRD3.out.below hb4).below hba)
  have HN5 := Lib.hid (HN3.out.betN.keepB (w' := w4.alloc (.cells #[.int .i64 n.kind, .string n.data, .slice hc.A n.ptrs.length hc.a, .int .i64 n.size, .int .i64 n.count, .slice hc.B n.items.length hc.b] nodeT)) (fun k _ h2 => (hba.block k (by have := hb4.size; omega)).trans (hb4.block k h2)))
  have HO5 := Lib.hid (hown.below hba)
  have HND := Lib.hid hnd
  have HGE := Lib.hid hge
  have hs4 : W3.heap.size ≤ w4.heap.size := hb4.size
  have hs5 : (w4.alloc (.cells #[.int .i64 n.kind, .string n.data, .slice hc.A n.ptrs.length hc.a, .int .i64 n.size, .int .i64 n.count, .slice hc.B n.items.length hc.b] nodeT)).heap.size = w4.heap.size + 1 := by simp
  have hlt4 : Hid (∀ b ∈ bs, b < w4.heap.size) := Lib.hid (fun b hb => (hown.lt b hb).1)
  have HR0 : Hid (R < w1.heap.size) := Lib.hid hRl
  have hw13 : w1.heap.size ≤ W3.heap.size := by omega
  clear hown hnd hge hb4 hba hbs HCP HX3 HZ3 HY3 HRD3 HN3 HB3
  go_wp2_with fail
  generalize w4.alloc (.cells #[.int .i64 n.kind, .string n.data, .slice hc.A n.ptrs.length hc.a, .int .i64 n.size, .int .i64 n.count, .slice hc.B n.items.length hc.b] nodeT) = W5 at *
  refine (pick_any R (0 + 13000) 5 _ HRD5.out (by omega)).mono ?_
  rintro e w6 ⟨v, ⟨hv0, hv1⟩, rfl, hp6⟩
  have HX6 := Lib.hid (pick_rowN HX5.out hp6 (by omega))
  have HXX6 := Lib.hid (pick_rowN HXX5.out hp6 (by omega))
  have HZ6 := Lib.hid (pick_rowN HZ5.out hp6 (by omega))
  have HY6 := Lib.hid (pick_rowN HY5.out hp6 (by omega))
  have hs6 := hp6.2.size
  have HB6 := Lib.hid (opened_below (show w.heap.size ≤ R by omega) HB5.out hp6)
  have HRD6 := Lib.hid hp6.1
  have HNB6 := Lib.hid (HN5.out.keepB (w' := w6) (fun k h1 h2 => hp6.2.block k (by omega) (by omega)))
  have HN6 := Lib.hid HNB6.out.unB
  have HO6 := Lib.hid (HO5.out.frame (fun b hb => hp6.2.block b (HO5.out.lt b hb).1 (by have := HGE.out b hb; omega)))
  have HSZN : Hid (sizN n ≤ 300000) := Lib.hid (by rw [← totN_siz HN5.out]; exact HT.out.1)
  clear hp6 HX5 HXX5 HZ5 HY5 HRD5 HN5 HO5 HB5
  have hv : v = 0 ∨ v = 1 ∨ v = 2 ∨ v = 3 ∨ v = 4 := by omega
  clear hv0 hv1
  have hd6 : (w6.drew).heap.size = w6.heap.size := rfl
  obtain ⟨c0, c1, c2, c3, c4, c5⟩ := cells6 HX6.out
  obtain ⟨x0, x1, x2, x3, x4, x5⟩ := cells6 HXX6.out
  obtain ⟨z0, z1, z2, z3, z4, z5⟩ := cells6 HZ6.out
  obtain ⟨y0, y1, y2, y3, y4, y5⟩ := cells6 HY6.out
  have zf := row_free HZ6.out
  have yf := row_free HY6.out
  rcases hv with rfl | rfl | rfl | rfl | rfl
  ·
    have HC := Lib.hid (fun (W : World) (hW : Below w6.heap.size w6 W) => l13AnyNode_any R (0 + 13000 + 1) W (HRD6.out.below hW) (by omega))
    unfold NdP at HC
    clear x0 x1 x2 x3 x4 x5
    go_wp2_with fail
    go_region_with (go_at_call 51; (with_reducible refine (HC.out _ (by exact (Below.mk rfl rfl rfl (Nat.le_refl _) (fun _ _ => rfl) : Below w6.heap.size w6 w6.drew))).mono ?_); rintro e w7 ⟨n', hy, rfl, hm, ht2, hp7⟩; have HZ7 := Lib.hid (pick_rowN (w := w6.drew) HZ6.out hp7 (by omega)); have HY7 := Lib.hid (pick_rowN (w := w6.drew) HY6.out hp7 (by omega)); obtain ⟨q0, q1, q2, q3, q4, q5⟩ := cells6 (pick_rowN (w := w6.drew) HX6.out hp7 (by omega)); obtain ⟨z0, z1, z2, z3, z4, z5⟩ := cells6 HZ7.out; obtain ⟨y0, y1, y2, y3, y4, y5⟩ := cells6 HY7.out; have zf := row_free HZ7.out; have yf := row_free HY7.out)
    all_goals
      have hp7' : Picked w6 R (0 + 13000 + 1 + 13000) w7 := ⟨hp7.1, ⟨hp7.2.os, hp7.2.tape, hp7.2.output, hp7.2.size, hp7.2.block⟩⟩
      have HB7 := Lib.hid (opened_below (show w.heap.size ≤ R by omega) HB6.out hp7')
      have HN7 := Lib.hid (HN6.out.picked hp7' (by omega))
      have HM7 := Lib.hid (hm.fromC (show w1.heap.size ≤ w6.drew.heap.size by omega))
      have HT2 : Hid (sizN n' ≤ 300000) := Lib.hid (by rw [← totN_siz hm]; exact ht2.1)
      clear hp7 hp7' hm ht2
      clear c0 c1 c2 c3 c4 c5 q0 q1 q2 q3 q4 q5 z0 z1 z2 z3 z4 z5 y0 y1 y2 y3 y4 y5
      clear zf yf
      go_wp2_with fail
      obtain ⟨wf, hwf, hrw, hrw2, hbf, huw⟩ := fin12a HZ7.out HY7.out HB7.out (.int .i64 n.kind) (.string n.data) (.slice hh.A n.ptrs.length hh.a) (.int .i64 n.size) (.int .i64 n.count) (.slice hh.B n.items.length hh.b) (.int .i64 n'.kind) (.string n'.data) (.slice hy.A n'.ptrs.length hy.a) (.int .i64 n'.size) (.int .i64 n'.count) (.slice hy.B n'.items.length hy.b)
      rw [hwf]
      obtain ⟨e0, e1, e2, e3, e4, e5⟩ := cells6 hrw
      obtain ⟨g0, g1, g2, g3, g4, g5⟩ := cells6 hrw2
      exact bodyPost_ret (v := .tuple #[.agg #[.int .i64 n.kind, .string n.data, .slice hh.A n.ptrs.length hh.a, .int .i64 n.size, .int .i64 n.count, .slice hh.B n.items.length hh.b], .agg #[.int .i64 n'.kind, .string n'.data, .slice hy.A n'.ptrs.length hy.a, .int .i64 n'.size, .int .i64 n'.count, .slice hy.B n'.items.length hy.b]])
        (by simp [results, Tryz.results18, go_sem, e0, e1, e2, e3, e4, e5, g0, g1, g2, g3, g4, g5]) rfl
        ⟨n, hh, n', hy, rfl, (((HN7.out.mono (by decide)).fromC (show w.heap.size + 2 ≤ w1.heap.size by omega)).uponC huw).fromC (by omega), (by have := HSZN.out; omega), (((HM7.out.mono (by decide)).fromC (show w.heap.size + 2 ≤ w1.heap.size by omega)).uponC huw).fromC (by omega), (by have := HT2.out; omega), hbf⟩
  ·
    by_cases hk : n.kind = 1
    case neg =>
      have hkb : (n.kind == 1) = false := by simpa using hk
      clear hk
      go_wp2_with fail
      go_region
      all_goals
        clear c0 c1 c2 c3 c4 c5 x0 x1 x2 x3 x4 x5 z0 z1 z2 z3 z4 z5 y0 y1 y2 y3 y4 y5 zf yf
        go_wp2_with fail
        obtain ⟨wf, hwf, hrw, hrw2, hbf, huw⟩ := fin12a (w1 := w6) HZ6.out HY6.out HB6.out (.int .i64 n.kind) (.string n.data) (.slice hh.A n.ptrs.length hh.a) (.int .i64 n.size) (.int .i64 n.count) (.slice hh.B n.items.length hh.b) (.int .i64 n.kind) (.string n.data) (.slice hc.A n.ptrs.length hc.a) (.int .i64 n.size) (.int .i64 n.count) (.slice hc.B n.items.length hc.b)
        rw [hwf]
        obtain ⟨e0, e1, e2, e3, e4, e5⟩ := cells6 (show wf.drew.heap[w.heap.size]? = _ from hrw)
        obtain ⟨g0, g1, g2, g3, g4, g5⟩ := cells6 (show wf.drew.heap[w.heap.size + 1]? = _ from hrw2)
        have huwd : Upon (w.heap.size + 2) (w6) wf.drew := ⟨huw.size, huw.block⟩
        have hbfd := hbf.drew
        exact bodyPost_ret (v := .tuple #[.agg #[.int .i64 n.kind, .string n.data, .slice hh.A n.ptrs.length hh.a, .int .i64 n.size, .int .i64 n.count, .slice hh.B n.items.length hh.b], .agg #[.int .i64 n.kind, .string n.data, (.slice hc.A n.ptrs.length hc.a), .int .i64 n.size, .int .i64 n.count, (.slice hc.B n.items.length hc.b)]])
          (by simp [results, Tryz.results18, go_sem, e0, e1, e2, e3, e4, e5, g0, g1, g2, g3, g4, g5]) rfl
          (⟨n, hh, n, hc, rfl, (((HN6.out.mono (by decide)).fromC (show w.heap.size + 2 ≤ w1.heap.size by omega)).uponC huwd).fromC (by omega), (by have := HSZN.out; omega), (((((HO6.out.nd.weak (S' := FromC w6 (w.heap.size + 2)) (fun k hk => ⟨by have := HGE.out k hk.1; omega, hk.2⟩)).mono (by decide) : NdAt w6 (FromC w6 (w.heap.size + 2)) 20 n hc)).uponC huwd).fromC (by omega)), (by have := HSZN.out; omega), hbfd⟩)
    have hkb : (n.kind == 1) = true := by simpa using hk
    clear hk
    have hnd8 : n.data.size ≤ 300000 := by have := HSZN.out; rw [sizN_eq] at this; omega
    have HPK := Lib.hid (fun (W : World) (hW : Below w6.heap.size w6 W) => pick_any R (0 + 13000 + 1) 3 W (HRD6.out.below hW) (by omega))
    have hz1 : (⟨#[0]⟩ : ByteArray).size = 1 ∧ (⟨#[0]⟩ : ByteArray).size ≤ 10000000 := ⟨rfl, by decide⟩
    have xf := row_free HXX6.out
    clear z0 z1 z2 z3 z4 z5 y0 y1 y2 y3 y4 y5 zf yf c0 c1 c2 c3 c4 c5
    go_wp2_with fail
    go_region_with (first | (go_at_call 53; (with_reducible refine (HPK.out _ (by exact (Below.mk rfl rfl rfl (Nat.le_refl _) (fun _ _ => rfl) : Below w6.heap.size w6 w6.drew))).mono ?_); rintro e w7 ⟨v3, ⟨hv30, hv31⟩, rfl, hp7⟩; have HXX7 := Lib.hid (pick_rowN (w := w6.drew) HXX6.out hp7 (by omega)); obtain ⟨q0, q1, q2, q3, q4, q5⟩ := cells6 HXX7.out; have qf := row_free HXX7.out; have hw8 : IntKind.i64.wrap (8 * v3) = 8 * v3 := (by rw [IntKind.wrap_i64]; omega)) | (go_at_call 54; go_must (refine (l1Many_any ⟨#[0]⟩ (8 * v3) _ (by omega) (by omega) hz1.2 (by rw [hz1.1, Nat.one_mul]; omega)).mono ?_); rintro e w8 ⟨rfl, rfl⟩; have hzs : (⟨(repL (⟨#[0]⟩ : ByteArray).data.toList (8 * v3).toNat).toArray⟩ : ByteArray).size ≤ 16 := (by rw [z_size]; omega); generalize (⟨(repL (⟨#[0]⟩ : ByteArray).data.toList (8 * v3).toNat).toArray⟩ : ByteArray) = zz at *; have f1 : ¬ 9223372036854775807 < n.data.size + zz.size := (by omega)))
    all_goals
      have hp7' : Picked w6 R (0 + 13000 + 1 + 1) w7 := ⟨hp7.1, ⟨hp7.2.os, hp7.2.tape, hp7.2.output, hp7.2.size, hp7.2.block⟩⟩
      have hs7 : w6.heap.size ≤ w7.heap.size := hp7'.2.size
      have HX7 := Lib.hid (pick_rowN HX6.out hp7' (by omega))
      have HZ7 := Lib.hid (pick_rowN HZ6.out hp7' (by omega))
      have HY7 := Lib.hid (pick_rowN HY6.out hp7' (by omega))
      have HB7 := Lib.hid (opened_below (show w.heap.size ≤ R by omega) HB6.out hp7')
      have HNB7 := Lib.hid (HNB6.out.keepB (w' := w7) (fun k h1 h2 => hp7'.2.block k (by omega) (by omega)))
      have HO7 := Lib.hid (HO6.out.frame (fun b hb => hp7'.2.block b (HO6.out.lt b hb).1 (by have := HGE.out b hb; omega)))
      clear hp7 hp7' x0 x1 x2 x3 x4 x5 q0 q1 q2 q3 q4 q5 qf xf HPK hw8 HX6 HXX6 HZ6 HY6 HB6 HRD6 HN6 HNB6 HO6
      have HXX8 : Hid ((w7.setCell ⟨w4.heap.size, 1, none⟩ (.string (n.data ++ zz))).heap[w4.heap.size]? = some (.cells #[.int .i64 n.kind, .string (n.data ++ zz), .slice hc.A n.ptrs.length hc.a, .int .i64 n.size, .int .i64 n.count, .slice hc.B n.items.length hc.b] nodeT (0, 0))) := Lib.hid (row_setN HXX7.out 1 _)
      have HX8 := Lib.hid ((Below.heap_setCell w7 ⟨w4.heap.size, 1, none⟩ (.string (n.data ++ zz)) w2.heap.size (by show w2.heap.size ≠ w4.heap.size; omega)).trans HX7.out)
      have HZ8 := Lib.hid ((Below.heap_setCell w7 ⟨w4.heap.size, 1, none⟩ (.string (n.data ++ zz)) w.heap.size (by show w.heap.size ≠ w4.heap.size; omega)).trans HZ7.out)
      have HY8 := Lib.hid ((Below.heap_setCell w7 ⟨w4.heap.size, 1, none⟩ (.string (n.data ++ zz)) (w.heap.size + 1) (by show w.heap.size + 1 ≠ w4.heap.size; omega)).trans HY7.out)
      have HB8 := Lib.hid (HB7.out.setCell (p := ⟨w4.heap.size, 1, none⟩) (show w.heap.size ≤ w4.heap.size by omega) (.string (n.data ++ zz)))
      have HNB8 := Lib.hid (HNB7.out.keepB (w' := w7.setCell ⟨w4.heap.size, 1, none⟩ (.string (n.data ++ zz))) (fun k h1 h2 => Below.heap_setCell w7 ⟨w4.heap.size, 1, none⟩ _ k (by show k ≠ w4.heap.size; omega)))
      have HO8 := Lib.hid (HO7.out.frame (w' := w7.setCell ⟨w4.heap.size, 1, none⟩ (.string (n.data ++ zz))) (fun b hb => Below.heap_setCell w7 ⟨w4.heap.size, 1, none⟩ _ b (by have := hlt4.out b hb; show b ≠ w4.heap.size; omega)))
      have hs8 : w7.heap.size ≤ (w7.setCell ⟨w4.heap.size, 1, none⟩ (.string (n.data ++ zz))).heap.size := by simp [World.setCell]
      generalize w7.setCell ⟨w4.heap.size, 1, none⟩ (.string (n.data ++ zz)) = W8 at *
      obtain ⟨hdm, b1, b2, hbs, ho1, ho2⟩ := HO8.out
      have hnd' := HND.out
      rw [hbs] at hnd'
      have hnd2 := List.nodup_append.1 hnd'
      obtain ⟨q, hqm, hql, hro, hqb, hvm⟩ := OwS.rowO (B := W3.heap.size) ho1 hnd2.1 (fun b hb => HGE.out b (by rw [hbs]; exact List.mem_append_left _ hb))
      have HRO := Lib.hid hro
      have HQM := Lib.hid hqm
      have HO2 := Lib.hid ho2
      have HD2 : Hid (∀ b ∈ b2, W3.heap.size ≤ b ∧ b < w4.heap.size ∧ some b ≠ (Value.slice hc.A n.ptrs.length hc.a).ownBlock) := Lib.hid (fun b hb => ⟨HGE.out b (by rw [hbs]; exact List.mem_append_right _ hb), hlt4.out b (by rw [hbs]; exact List.mem_append_right _ hb), fun e => hnd2.2.2 b (hvm b e.symm) b hb rfl⟩)
      have HQB : Hid (∀ b ∈ blkB q, b < w4.heap.size) := Lib.hid (fun b hb => hlt4.out b (by rw [hbs]; exact List.mem_append_left _ (hqb b hb)))
      have HVN : Hid (∀ k, (Value.slice hc.A n.ptrs.length hc.a).ownBlock = some k → k ≠ w4.heap.size) := Lib.hid (fun k hk => by have := hlt4.out k (by rw [hbs]; exact List.mem_append_left _ (hvm k hk)); omega)
      have hpl : n.ptrs.length ≤ 300000 := by have h1 := HSZN.out; have h2 := sizL_len n.ptrs; rw [sizN_eq] at h1; omega
      have hq3 : q.length ≤ 3000000 := by omega
      have HQL := Lib.hid hql
      clear hdm hbs ho1 ho2 hnd' hnd2 hro hqm hqb hvm HO8 hql HXX7 HX7 HZ7 HY7 HB7 HNB7 HO7
      obtain ⟨q0, q1, q2, q3, q4, q5⟩ := cells6 HXX8.out
      have HVB : Hid (∀ k, (Value.slice hc.A n.ptrs.length hc.a).ownBlock = some k → W3.heap.size ≤ k ∧ k ≠ w4.heap.size) := Lib.hid (fun k hk => ⟨(HRO.out.1.lt k hk).1, HVN.out k hk⟩)
      go_wp2_with (at_builtin; go_must (refine wpList_append_ndB rfl (.tmp 36) (.tmp 38) rfl W3.heap.size (.slice hc.A n.ptrs.length hc.a) q.length (rowB q) rfl (HRO.out.1.alloc _) ⟨W8.heap.size, 0, none⟩ 1 (noneNd, nHd) rfl (cells_six_new W8 (noneNd, nHd) _) hq3 (by simp; omega) ?_); intro A9 c9 w9 hown9 hgrow9 hat9; have hxx9 := (hgrow9.out.block w4.heap.size (by simp; omega) (fun e => (HVB.out _ e.symm).2 rfl)).trans ((Below.heap_alloc W8 _ w4.heap.size (by omega)).trans HXX8.out); have qf9 := row_free hxx9; obtain ⟨r0, r1, r2, r3, r4, r5⟩ := cells6 hxx9)
      have HXX9 := Lib.hid hxx9
      clear hxx9 r0 r1 r2 r3 r4 r5
      have hg9 := hgrow9.out
      have hblk9 : ∀ k, k < W8.heap.size → (∀ j, (Value.slice hc.A n.ptrs.length hc.a).ownBlock = some j → k ≠ j) → w9.heap[k]? = W8.heap[k]? := fun k h1 h2 => (hg9.block k (by simp; omega) (fun e => h2 k e.symm rfl)).trans (Below.heap_alloc W8 _ k h1)
      have hnx := (HRO.out.alloc _).next (OwN.none _ 18 : OwN (W8.alloc _) 18 noneNd nHd []) List.nodup_nil (fun b h => (by cases h)) (show W3.heap.size ≤ W8.heap.size by omega) HRO.out.lt (fun k hk => (HRO.out.1.lt k hk).2) hown9.out hgrow9.out hat9.out
      have HXX10 : Hid ((w9.setCell ⟨w4.heap.size, 2, none⟩ (.slice A9 (q.length + 1) c9)).heap[w4.heap.size]? = some (.cells #[.int .i64 n.kind, .string (n.data ++ zz), .slice A9 (q.length + 1) c9, .int .i64 n.size, .int .i64 n.count, .slice hc.B n.items.length hc.b] nodeT (0, 0))) := Lib.hid (row_setN HXX9.out 2 _)
      have hk10 : ∀ k, k ≠ w4.heap.size → (w9.setCell ⟨w4.heap.size, 2, none⟩ (.slice A9 (q.length + 1) c9)).heap[k]? = w9.heap[k]? := fun k hk => Below.heap_setCell w9 ⟨w4.heap.size, 2, none⟩ _ k hk
      have HX10 := Lib.hid (((hk10 w2.heap.size (by omega)).trans (hblk9 _ (by omega) (fun j hj e => by have := (HVB.out j hj).1; omega))).trans HX8.out)
      have HZ10 := Lib.hid (((hk10 w.heap.size (by omega)).trans (hblk9 _ (by omega) (fun j hj e => by have := (HVB.out j hj).1; omega))).trans HZ8.out)
      have HY10 := Lib.hid (((hk10 (w.heap.size + 1) (by omega)).trans (hblk9 _ (by omega) (fun j hj e => by have := (HVB.out j hj).1; omega))).trans HY8.out)
      have HNB10 := Lib.hid (HNB8.out.keepB (w' := w9.setCell ⟨w4.heap.size, 2, none⟩ (.slice A9 (q.length + 1) c9)) (fun k h1 h2 => (hk10 k (by omega)).trans (hblk9 k (by omega) (fun j hj e => by have := (HVB.out j hj).1; omega))))
      have HB10 := Lib.hid (((HB8.out.alloc HB8.out.size _).grown hg9 (by simp; have := HB8.out.size; omega) (fun k hk => by have := (HVB.out k hk).1; omega)).setCell (p := ⟨w4.heap.size, 2, none⟩) (show w.heap.size ≤ w4.heap.size by omega) (.slice A9 (q.length + 1) c9))
      have hat9' := hat9.out
      have hnx10 := hnx.frame (w' := w9.setCell ⟨w4.heap.size, 2, none⟩ (.slice A9 (q.length + 1) c9)) (fun b hb => hk10 b (by
        rcases hb with hb | hb
        · rcases hat9' with e | e
          · rw [e] at hb
            exact (HVB.out b hb).2
          · rw [e] at hb
            injection hb with hb
            simp at hb
            omega
        · rw [blkB_snoc, List.append_nil] at hb
          have := HQB.out b hb
          omega))
      obtain ⟨A9', c9', bs9, hv9, ho9, hnd9, hge9⟩ := hnx10.done
      injection hv9 with ea eb ec
      subst ea ec
      rw [List.map_append, HQM.out] at ho9
      have HP10 : Hid (OwS (w9.setCell ⟨w4.heap.size, 2, none⟩ (.slice A9 (q.length + 1) c9)) 19 A9 c9 (n.ptrs ++ [noneNd]) bs9) := Lib.hid ho9
      have HI10 : Hid (OwS (w9.setCell ⟨w4.heap.size, 2, none⟩ (.slice A9 (q.length + 1) c9)) 19 hc.B hc.b n.items b2) := Lib.hid (HO2.out.frame _ _ _ _ _ (fun b hb => by
        obtain ⟨g1, g2, g3⟩ := HD2.out b hb
        exact (hk10 b (by omega)).trans (hblk9 b (by omega) (fun j hj e => g3 (by rw [hj, e])))))
      have HGE9 : Hid (∀ b ∈ bs9, w.heap.size + 2 ≤ b) := Lib.hid (fun b hb => by have := hge9 b hb; omega)
      have hNP : (n.ptrs ++ [noneNd]).length = q.length + 1 := by rw [List.length_append, ← HQL.out]; rfl
      clear hnx hnx10 ho9 hnd9 hge9 hk10 hblk9 hg9 hown9 hgrow9 hat9 hat9' q0 q1 q2 q3 q4 q5 qf9
      have HNP := Lib.hid hNP
      clear hNP
      generalize w9.setCell ⟨w4.heap.size, 2, none⟩ (.slice A9 (q.length + 1) c9) = W10 at *
      obtain ⟨dz, hdz⟩ : ∃ dz, dz = n.data ++ zz := ⟨_, rfl⟩
      obtain ⟨L9, hL9⟩ : ∃ L9, L9 = q.length + 1 := ⟨_, rfl⟩
      rw [← hdz, ← hL9] at HXX10
      rw [← hL9] at HNP
      have HDZ := Lib.hid hdz
      have HZS2 := Lib.hid hzs
      have HZS : Hid (dz.size ≤ 300016) := Lib.hid (by rw [hdz, ByteArray.size_append]; omega)
      clear hdz hL9 hkb f1 hzs hv30 hv31
      obtain ⟨c0, c1, c2, c3, c4, c5⟩ := cells6 HX10.out
      obtain ⟨x0, x1, x2, x3, x4, x5⟩ := cells6 HXX10.out
      obtain ⟨z0, z1, z2, z3, z4, z5⟩ := cells6 HZ10.out
      obtain ⟨y0, y1, y2, y3, y4, y5⟩ := cells6 HY10.out
      have zf := row_free HZ10.out
      have yf := row_free HY10.out
      go_wp2_with fail
      go_region
      all_goals
        clear c0 c1 c2 c3 c4 c5 x0 x1 x2 x3 x4 x5 z0 z1 z2 z3 z4 z5 y0 y1 y2 y3 y4 y5 zf yf
        go_wp2_with fail
        obtain ⟨wf, hwf, hrw, hrw2, hbf, huw⟩ := fin12a (w1 := W10) HZ10.out HY10.out HB10.out (.int .i64 n.kind) (.string n.data) (.slice hh.A n.ptrs.length hh.a) (.int .i64 n.size) (.int .i64 n.count) (.slice hh.B n.items.length hh.b) (.int .i64 n.kind) (.string dz) (.slice A9 L9 c9) (.int .i64 n.size) (.int .i64 n.count) (.slice hc.B n.items.length hc.b)
        rw [hwf]
        obtain ⟨e0, e1, e2, e3, e4, e5⟩ := cells6 (show wf.drew.heap[w.heap.size]? = _ from hrw)
        obtain ⟨g0, g1, g2, g3, g4, g5⟩ := cells6 (show wf.drew.heap[w.heap.size + 1]? = _ from hrw2)
        have huwd : Upon (w.heap.size + 2) (W10) wf.drew := ⟨huw.size, huw.block⟩
        have hbfd := hbf.drew
        exact bodyPost_ret (v := .tuple #[.agg #[.int .i64 n.kind, .string n.data, .slice hh.A n.ptrs.length hh.a, .int .i64 n.size, .int .i64 n.count, .slice hh.B n.items.length hh.b], .agg #[.int .i64 n.kind, .string dz, (.slice A9 L9 c9), .int .i64 n.size, .int .i64 n.count, (.slice hc.B n.items.length hc.b)]])
          (by simp [results, Tryz.results18, go_sem, e0, e1, e2, e3, e4, e5, g0, g1, g2, g3, g4, g5]) rfl
          (⟨n, hh, .mk n.kind dz (n.ptrs ++ [noneNd]) n.size n.count n.items, ⟨A9, c9, hc.B, hc.b⟩, by show _ = Ending.returned (.tuple #[_, .agg #[.int .i64 n.kind, .string dz, .slice A9 (n.ptrs ++ [noneNd]).length c9, .int .i64 n.size, .int .i64 n.count, .slice hc.B n.items.length hc.b]]); rw [HNP.out], (((HNB10.out.unB.mono (by decide)).fromC (show w.heap.size + 2 ≤ w1.heap.size by omega)).uponC huwd).fromC (by omega), (by have := HSZN.out; omega), (((show NdAt W10 (FromC W10 (w.heap.size + 2)) 19 (.mk n.kind dz (n.ptrs ++ [noneNd]) n.size n.count n.items) ⟨A9, c9, hc.B, hc.b⟩ from ⟨by show dz.size ≤ maxLen; have := HZS.out; unfold maxLen; omega, HP10.out.fromC HGE9.out, HI10.out.fromC (fun b hb => by have := (HD2.out b hb).1; omega)⟩).mono (by decide)).uponC huwd).fromC (by omega), (by have h1 := siz_more n zz; rw [← HDZ.out] at h1; rw [h1]; have h2 := HZS2.out; have := HSZN.out; omega), hbfd⟩)
  ·
    by_cases hk : n.kind = 1
    case neg =>
      have hkb : (n.kind == 1) = false := by simpa using hk
      clear hk
      go_wp2_with fail
      go_region
      all_goals
        clear c0 c1 c2 c3 c4 c5 x0 x1 x2 x3 x4 x5 z0 z1 z2 z3 z4 z5 y0 y1 y2 y3 y4 y5 zf yf
        go_wp2_with fail
        obtain ⟨wf, hwf, hrw, hrw2, hbf, huw⟩ := fin12a (w1 := w6) HZ6.out HY6.out HB6.out (.int .i64 n.kind) (.string n.data) (.slice hh.A n.ptrs.length hh.a) (.int .i64 n.size) (.int .i64 n.count) (.slice hh.B n.items.length hh.b) (.int .i64 n.kind) (.string n.data) (.slice hc.A n.ptrs.length hc.a) (.int .i64 n.size) (.int .i64 n.count) (.slice hc.B n.items.length hc.b)
        rw [hwf]
        obtain ⟨e0, e1, e2, e3, e4, e5⟩ := cells6 (show wf.drew.heap[w.heap.size]? = _ from hrw)
        obtain ⟨g0, g1, g2, g3, g4, g5⟩ := cells6 (show wf.drew.heap[w.heap.size + 1]? = _ from hrw2)
        have huwd : Upon (w.heap.size + 2) (w6) wf.drew := ⟨huw.size, huw.block⟩
        have hbfd := hbf.drew
        exact bodyPost_ret (v := .tuple #[.agg #[.int .i64 n.kind, .string n.data, .slice hh.A n.ptrs.length hh.a, .int .i64 n.size, .int .i64 n.count, .slice hh.B n.items.length hh.b], .agg #[.int .i64 n.kind, .string n.data, (.slice hc.A n.ptrs.length hc.a), .int .i64 n.size, .int .i64 n.count, (.slice hc.B n.items.length hc.b)]])
          (by simp [results, Tryz.results18, go_sem, e0, e1, e2, e3, e4, e5, g0, g1, g2, g3, g4, g5]) rfl
          (⟨n, hh, n, hc, rfl, (((HN6.out.mono (by decide)).fromC (show w.heap.size + 2 ≤ w1.heap.size by omega)).uponC huwd).fromC (by omega), (by have := HSZN.out; omega), (((((HO6.out.nd.weak (S' := FromC w6 (w.heap.size + 2)) (fun k hk => ⟨by have := HGE.out k hk.1; omega, hk.2⟩)).mono (by decide) : NdAt w6 (FromC w6 (w.heap.size + 2)) 20 n hc)).uponC huwd).fromC (by omega)), (by have := HSZN.out; omega), hbfd⟩)
    have hkb : (n.kind == 1) = true := by simpa using hk
    clear hk
    have hnd8 : n.data.size ≤ 300000 := by have := HSZN.out; rw [sizN_eq] at this; omega
    have HPK := Lib.hid (fun (W : World) (hW : Below w6.heap.size w6 W) => pick_any R (0 + 13000 + 1) 3 W (HRD6.out.below hW) (by omega))
    have hz1 : (⟨#[0]⟩ : ByteArray).size = 1 ∧ (⟨#[0]⟩ : ByteArray).size ≤ 10000000 := ⟨rfl, by decide⟩
    have xf := row_free HXX6.out
    clear z0 z1 z2 z3 z4 z5 y0 y1 y2 y3 y4 y5 zf yf c0 c1 c2 c3 c4 c5
    go_wp2_with fail
    go_region_with (first | (go_at_call 53; (with_reducible refine (HPK.out _ (by exact (Below.mk rfl rfl rfl (Nat.le_refl _) (fun _ _ => rfl) : Below w6.heap.size w6 w6.drew))).mono ?_); rintro e w7 ⟨v3, ⟨hv30, hv31⟩, rfl, hp7⟩; have HXX7 := Lib.hid (pick_rowN (w := w6.drew) HXX6.out hp7 (by omega)); obtain ⟨q0, q1, q2, q3, q4, q5⟩ := cells6 HXX7.out; have qf := row_free HXX7.out; have hw8 : IntKind.i64.wrap (8 * v3) = 8 * v3 := (by rw [IntKind.wrap_i64]; omega)) | (go_at_call 54; go_must (refine (l1Many_any ⟨#[0]⟩ (8 * v3) _ (by omega) (by omega) hz1.2 (by rw [hz1.1, Nat.one_mul]; omega)).mono ?_); rintro e w8 ⟨rfl, rfl⟩; have hzs : (⟨(repL (⟨#[0]⟩ : ByteArray).data.toList (8 * v3).toNat).toArray⟩ : ByteArray).size ≤ 16 := (by rw [z_size]; omega); generalize (⟨(repL (⟨#[0]⟩ : ByteArray).data.toList (8 * v3).toNat).toArray⟩ : ByteArray) = zz at *; have f1 : ¬ 9223372036854775807 < n.data.size + zz.size := (by omega)))
    all_goals
      have hp7' : Picked w6 R (0 + 13000 + 1 + 1) w7 := ⟨hp7.1, ⟨hp7.2.os, hp7.2.tape, hp7.2.output, hp7.2.size, hp7.2.block⟩⟩
      have hs7 : w6.heap.size ≤ w7.heap.size := hp7'.2.size
      have HX7 := Lib.hid (pick_rowN HX6.out hp7' (by omega))
      have HZ7 := Lib.hid (pick_rowN HZ6.out hp7' (by omega))
      have HY7 := Lib.hid (pick_rowN HY6.out hp7' (by omega))
      have HB7 := Lib.hid (opened_below (show w.heap.size ≤ R by omega) HB6.out hp7')
      have HNB7 := Lib.hid (HNB6.out.keepB (w' := w7) (fun k h1 h2 => hp7'.2.block k (by omega) (by omega)))
      have HO7 := Lib.hid (HO6.out.frame (fun b hb => hp7'.2.block b (HO6.out.lt b hb).1 (by have := HGE.out b hb; omega)))
      clear hp7 hp7' x0 x1 x2 x3 x4 x5 q0 q1 q2 q3 q4 q5 qf xf HPK hw8 HX6 HXX6 HZ6 HY6 HB6 HRD6 HN6 HNB6 HO6
      have HXX8 : Hid ((w7.setCell ⟨w4.heap.size, 1, none⟩ (.string (n.data ++ zz))).heap[w4.heap.size]? = some (.cells #[.int .i64 n.kind, .string (n.data ++ zz), .slice hc.A n.ptrs.length hc.a, .int .i64 n.size, .int .i64 n.count, .slice hc.B n.items.length hc.b] nodeT (0, 0))) := Lib.hid (row_setN HXX7.out 1 _)
      have HX8 := Lib.hid ((Below.heap_setCell w7 ⟨w4.heap.size, 1, none⟩ (.string (n.data ++ zz)) w2.heap.size (by show w2.heap.size ≠ w4.heap.size; omega)).trans HX7.out)
      have HZ8 := Lib.hid ((Below.heap_setCell w7 ⟨w4.heap.size, 1, none⟩ (.string (n.data ++ zz)) w.heap.size (by show w.heap.size ≠ w4.heap.size; omega)).trans HZ7.out)
      have HY8 := Lib.hid ((Below.heap_setCell w7 ⟨w4.heap.size, 1, none⟩ (.string (n.data ++ zz)) (w.heap.size + 1) (by show w.heap.size + 1 ≠ w4.heap.size; omega)).trans HY7.out)
      have HB8 := Lib.hid (HB7.out.setCell (p := ⟨w4.heap.size, 1, none⟩) (show w.heap.size ≤ w4.heap.size by omega) (.string (n.data ++ zz)))
      have HNB8 := Lib.hid (HNB7.out.keepB (w' := w7.setCell ⟨w4.heap.size, 1, none⟩ (.string (n.data ++ zz))) (fun k h1 h2 => Below.heap_setCell w7 ⟨w4.heap.size, 1, none⟩ _ k (by show k ≠ w4.heap.size; omega)))
      have HO8 := Lib.hid (HO7.out.frame (w' := w7.setCell ⟨w4.heap.size, 1, none⟩ (.string (n.data ++ zz))) (fun b hb => Below.heap_setCell w7 ⟨w4.heap.size, 1, none⟩ _ b (by have := hlt4.out b hb; show b ≠ w4.heap.size; omega)))
      have hs8 : w7.heap.size ≤ (w7.setCell ⟨w4.heap.size, 1, none⟩ (.string (n.data ++ zz))).heap.size := by simp [World.setCell]
      generalize w7.setCell ⟨w4.heap.size, 1, none⟩ (.string (n.data ++ zz)) = W8 at *
      obtain ⟨hdm, b1, b2, hbs, ho1, ho2⟩ := HO8.out
      have hnd' := HND.out
      rw [hbs] at hnd'
      have hnd2 := List.nodup_append.1 hnd'
      obtain ⟨q, hqm, hql, hro, hqb, hvm⟩ := OwS.rowO (B := W3.heap.size) ho1 hnd2.1 (fun b hb => HGE.out b (by rw [hbs]; exact List.mem_append_left _ hb))
      have HRO := Lib.hid hro
      have HQM := Lib.hid hqm
      have HO2 := Lib.hid ho2
      have HD2 : Hid (∀ b ∈ b2, W3.heap.size ≤ b ∧ b < w4.heap.size ∧ some b ≠ (Value.slice hc.A n.ptrs.length hc.a).ownBlock) := Lib.hid (fun b hb => ⟨HGE.out b (by rw [hbs]; exact List.mem_append_right _ hb), hlt4.out b (by rw [hbs]; exact List.mem_append_right _ hb), fun e => hnd2.2.2 b (hvm b e.symm) b hb rfl⟩)
      have HQB : Hid (∀ b ∈ blkB q, b < w4.heap.size) := Lib.hid (fun b hb => hlt4.out b (by rw [hbs]; exact List.mem_append_left _ (hqb b hb)))
      have HVN : Hid (∀ k, (Value.slice hc.A n.ptrs.length hc.a).ownBlock = some k → k ≠ w4.heap.size) := Lib.hid (fun k hk => by have := hlt4.out k (by rw [hbs]; exact List.mem_append_left _ (hvm k hk)); omega)
      have hpl : n.ptrs.length ≤ 300000 := by have h1 := HSZN.out; have h2 := sizL_len n.ptrs; rw [sizN_eq] at h1; omega
      have hq3 : q.length ≤ 3000000 := by omega
      have HQL := Lib.hid hql
      clear hdm hbs ho1 ho2 hnd' hnd2 hro hqm hqb hvm HO8 hql HXX7 HX7 HZ7 HY7 HB7 HNB7 HO7
      obtain ⟨q0, q1, q2, q3, q4, q5⟩ := cells6 HXX8.out
      have HVB : Hid (∀ k, (Value.slice hc.A n.ptrs.length hc.a).ownBlock = some k → W3.heap.size ≤ k ∧ k ≠ w4.heap.size) := Lib.hid (fun k hk => ⟨(HRO.out.1.lt k hk).1, HVN.out k hk⟩)
      go_wp2_with (at_builtin; go_must (refine wpList_append_ndB rfl (.tmp 36) (.tmp 38) rfl W3.heap.size (.slice hc.A n.ptrs.length hc.a) q.length (rowB q) rfl (HRO.out.1.alloc _) ⟨W8.heap.size, 0, none⟩ 1 (noneNd, nHd) rfl (cells_six_new W8 (noneNd, nHd) _) hq3 (by simp; omega) ?_); intro A9 c9 w9 hown9 hgrow9 hat9; have hxx9 := (hgrow9.out.block w4.heap.size (by simp; omega) (fun e => (HVB.out _ e.symm).2 rfl)).trans ((Below.heap_alloc W8 _ w4.heap.size (by omega)).trans HXX8.out); have qf9 := row_free hxx9; obtain ⟨r0, r1, r2, r3, r4, r5⟩ := cells6 hxx9)
      have HXX9 := Lib.hid hxx9
      clear hxx9 r0 r1 r2 r3 r4 r5
      have hg9 := hgrow9.out
      have hblk9 : ∀ k, k < W8.heap.size → (∀ j, (Value.slice hc.A n.ptrs.length hc.a).ownBlock = some j → k ≠ j) → w9.heap[k]? = W8.heap[k]? := fun k h1 h2 => (hg9.block k (by simp; omega) (fun e => h2 k e.symm rfl)).trans (Below.heap_alloc W8 _ k h1)
      have hnx := (HRO.out.alloc _).next (OwN.none _ 18 : OwN (W8.alloc _) 18 noneNd nHd []) List.nodup_nil (fun b h => (by cases h)) (show W3.heap.size ≤ W8.heap.size by omega) HRO.out.lt (fun k hk => (HRO.out.1.lt k hk).2) hown9.out hgrow9.out hat9.out
      have HXX10 : Hid ((w9.setCell ⟨w4.heap.size, 2, none⟩ (.slice A9 (q.length + 1) c9)).heap[w4.heap.size]? = some (.cells #[.int .i64 n.kind, .string (n.data ++ zz), .slice A9 (q.length + 1) c9, .int .i64 n.size, .int .i64 n.count, .slice hc.B n.items.length hc.b] nodeT (0, 0))) := Lib.hid (row_setN HXX9.out 2 _)
      have hk10 : ∀ k, k ≠ w4.heap.size → (w9.setCell ⟨w4.heap.size, 2, none⟩ (.slice A9 (q.length + 1) c9)).heap[k]? = w9.heap[k]? := fun k hk => Below.heap_setCell w9 ⟨w4.heap.size, 2, none⟩ _ k hk
      have HX10 := Lib.hid (((hk10 w2.heap.size (by omega)).trans (hblk9 _ (by omega) (fun j hj e => by have := (HVB.out j hj).1; omega))).trans HX8.out)
      have HZ10 := Lib.hid (((hk10 w.heap.size (by omega)).trans (hblk9 _ (by omega) (fun j hj e => by have := (HVB.out j hj).1; omega))).trans HZ8.out)
      have HY10 := Lib.hid (((hk10 (w.heap.size + 1) (by omega)).trans (hblk9 _ (by omega) (fun j hj e => by have := (HVB.out j hj).1; omega))).trans HY8.out)
      have HNB10 := Lib.hid (HNB8.out.keepB (w' := w9.setCell ⟨w4.heap.size, 2, none⟩ (.slice A9 (q.length + 1) c9)) (fun k h1 h2 => (hk10 k (by omega)).trans (hblk9 k (by omega) (fun j hj e => by have := (HVB.out j hj).1; omega))))
      have HB10 := Lib.hid (((HB8.out.alloc HB8.out.size _).grown hg9 (by simp; have := HB8.out.size; omega) (fun k hk => by have := (HVB.out k hk).1; omega)).setCell (p := ⟨w4.heap.size, 2, none⟩) (show w.heap.size ≤ w4.heap.size by omega) (.slice A9 (q.length + 1) c9))
      have hat9' := hat9.out
      have hnx10 := hnx.frame (w' := w9.setCell ⟨w4.heap.size, 2, none⟩ (.slice A9 (q.length + 1) c9)) (fun b hb => hk10 b (by
        rcases hb with hb | hb
        · rcases hat9' with e | e
          · rw [e] at hb
            exact (HVB.out b hb).2
          · rw [e] at hb
            injection hb with hb
            simp at hb
            omega
        · rw [blkB_snoc, List.append_nil] at hb
          have := HQB.out b hb
          omega))
      obtain ⟨A9', c9', bs9, hv9, ho9, hnd9, hge9⟩ := hnx10.done
      injection hv9 with ea eb ec
      subst ea ec
      rw [List.map_append, HQM.out] at ho9
      have HP10 : Hid (OwS (w9.setCell ⟨w4.heap.size, 2, none⟩ (.slice A9 (q.length + 1) c9)) 19 A9 c9 (n.ptrs ++ [noneNd]) bs9) := Lib.hid ho9
      have HI10 : Hid (OwS (w9.setCell ⟨w4.heap.size, 2, none⟩ (.slice A9 (q.length + 1) c9)) 19 hc.B hc.b n.items b2) := Lib.hid (HO2.out.frame _ _ _ _ _ (fun b hb => by
        obtain ⟨g1, g2, g3⟩ := HD2.out b hb
        exact (hk10 b (by omega)).trans (hblk9 b (by omega) (fun j hj e => g3 (by rw [hj, e])))))
      have HGE9 : Hid (∀ b ∈ bs9, w.heap.size + 2 ≤ b) := Lib.hid (fun b hb => by have := hge9 b hb; omega)
      have hNP : (n.ptrs ++ [noneNd]).length = q.length + 1 := by rw [List.length_append, ← HQL.out]; rfl
      clear hnx hnx10 ho9 hnd9 hge9 hk10 hblk9 hg9 hown9 hgrow9 hat9 hat9' q0 q1 q2 q3 q4 q5 qf9
      have HNP := Lib.hid hNP
      clear hNP
      generalize w9.setCell ⟨w4.heap.size, 2, none⟩ (.slice A9 (q.length + 1) c9) = W10 at *
      obtain ⟨dz, hdz⟩ : ∃ dz, dz = n.data ++ zz := ⟨_, rfl⟩
      obtain ⟨L9, hL9⟩ : ∃ L9, L9 = q.length + 1 := ⟨_, rfl⟩
      rw [← hdz, ← hL9] at HXX10
      rw [← hL9] at HNP
      have HDZ := Lib.hid hdz
      have HZS2 := Lib.hid hzs
      have HZS : Hid (dz.size ≤ 300016) := Lib.hid (by rw [hdz, ByteArray.size_append]; omega)
      clear hdz hL9 hkb f1 hzs hv30 hv31
      obtain ⟨c0, c1, c2, c3, c4, c5⟩ := cells6 HX10.out
      obtain ⟨x0, x1, x2, x3, x4, x5⟩ := cells6 HXX10.out
      obtain ⟨z0, z1, z2, z3, z4, z5⟩ := cells6 HZ10.out
      obtain ⟨y0, y1, y2, y3, y4, y5⟩ := cells6 HY10.out
      have zf := row_free HZ10.out
      have yf := row_free HY10.out
      go_wp2_with fail
      go_region
      all_goals
        clear c0 c1 c2 c3 c4 c5 x0 x1 x2 x3 x4 x5 z0 z1 z2 z3 z4 z5 y0 y1 y2 y3 y4 y5 zf yf
        go_wp2_with fail
        obtain ⟨wf, hwf, hrw, hrw2, hbf, huw⟩ := fin12a (w1 := W10) HZ10.out HY10.out HB10.out (.int .i64 n.kind) (.string n.data) (.slice hh.A n.ptrs.length hh.a) (.int .i64 n.size) (.int .i64 n.count) (.slice hh.B n.items.length hh.b) (.int .i64 n.kind) (.string dz) (.slice A9 L9 c9) (.int .i64 n.size) (.int .i64 n.count) (.slice hc.B n.items.length hc.b)
        rw [hwf]
        obtain ⟨e0, e1, e2, e3, e4, e5⟩ := cells6 (show wf.drew.heap[w.heap.size]? = _ from hrw)
        obtain ⟨g0, g1, g2, g3, g4, g5⟩ := cells6 (show wf.drew.heap[w.heap.size + 1]? = _ from hrw2)
        have huwd : Upon (w.heap.size + 2) (W10) wf.drew := ⟨huw.size, huw.block⟩
        have hbfd := hbf.drew
        exact bodyPost_ret (v := .tuple #[.agg #[.int .i64 n.kind, .string n.data, .slice hh.A n.ptrs.length hh.a, .int .i64 n.size, .int .i64 n.count, .slice hh.B n.items.length hh.b], .agg #[.int .i64 n.kind, .string dz, (.slice A9 L9 c9), .int .i64 n.size, .int .i64 n.count, (.slice hc.B n.items.length hc.b)]])
          (by simp [results, Tryz.results18, go_sem, e0, e1, e2, e3, e4, e5, g0, g1, g2, g3, g4, g5]) rfl
          (⟨n, hh, .mk n.kind dz (n.ptrs ++ [noneNd]) n.size n.count n.items, ⟨A9, c9, hc.B, hc.b⟩, by show _ = Ending.returned (.tuple #[_, .agg #[.int .i64 n.kind, .string dz, .slice A9 (n.ptrs ++ [noneNd]).length c9, .int .i64 n.size, .int .i64 n.count, .slice hc.B n.items.length hc.b]]); rw [HNP.out], (((HNB10.out.unB.mono (by decide)).fromC (show w.heap.size + 2 ≤ w1.heap.size by omega)).uponC huwd).fromC (by omega), (by have := HSZN.out; omega), (((show NdAt W10 (FromC W10 (w.heap.size + 2)) 19 (.mk n.kind dz (n.ptrs ++ [noneNd]) n.size n.count n.items) ⟨A9, c9, hc.B, hc.b⟩ from ⟨by show dz.size ≤ maxLen; have := HZS.out; unfold maxLen; omega, HP10.out.fromC HGE9.out, HI10.out.fromC (fun b hb => by have := (HD2.out b hb).1; omega)⟩).mono (by decide)).uponC huwd).fromC (by omega), (by have h1 := siz_more n zz; rw [← HDZ.out] at h1; rw [h1]; have h2 := HZS2.out; have := HSZN.out; omega), hbfd⟩)
  ·
    obtain ⟨hdm, b1, b2, hbs, ho1, ho2⟩ := HO6.out
    have hnd' := HND.out
    rw [hbs] at hnd'
    have hnd2 := List.nodup_append.1 hnd'
    obtain ⟨z8, hz8⟩ : ∃ z8, z8 = (⟨(repL (⟨#[0]⟩ : ByteArray).data.toList (8 : Int).toNat).toArray⟩ : ByteArray) := ⟨_, rfl⟩
    have HZ8 : Hid (z8.size = 8) := Lib.hid (by rw [hz8]; exact z_size 8)
    have HM8 : Hid (∀ W : World, Calls Tryz.prog 54 #[.string ⟨#[0]⟩, .int .i64 8] W fun e w' => e = .returned (.string z8) ∧ W = w') := Lib.hid fun W => by rw [hz8]; exact l1Many_any ⟨#[0]⟩ 8 W (by decide) (by decide) (by decide) (by decide)
    have HDM := Lib.hid hdm
    have HO1 := Lib.hid ho1
    have HD1 : Hid (∀ b ∈ b1, w.heap.size + 2 ≤ b) := Lib.hid (fun b hb => by have := HGE.out b (by rw [hbs]; exact List.mem_append_left _ hb); omega)
    have HD2 : Hid (∀ b ∈ b2, W3.heap.size ≤ b ∧ b < w4.heap.size) := Lib.hid (fun b hb => ⟨HGE.out b (by rw [hbs]; exact List.mem_append_right _ hb), hlt4.out b (by rw [hbs]; exact List.mem_append_right _ hb)⟩)
    have HIDS : Hid (∀ k (h : k < n.items.length), n.items[k].data.size ≤ 300000) := Lib.hid (fun k h => by
      have h1 := HSZN.out
      have h2 := sizL_at h
      rw [sizN_eq] at h1 h2
      omega)
    have hil : n.items.length ≤ 1000 := HT.out.2
    rcases own_cap ho2 with ⟨hB0, hl0, hb0⟩ | ⟨⟨g, hg⟩, hle⟩
    · have hlen0 : n.items.length = 0 := by rw [hl0]; rfl
      clear hB0 hb0 hl0 ho1 ho2 hnd' hnd2 hbs hdm hz8 hil
      go_wp2_with fail
      go_loopw [7] (fun i wr => i = .int .i64 0 ∧ w6 = wr) (fun _ _ => 0)
      case atStart => exact ⟨rfl, rfl⟩
      case round =>
        obtain ⟨rfl, rfl⟩ := hrel
        go_wp2_with fail
        clear hlen0
        go_region
        all_goals
          clear c0 c1 c2 c3 c4 c5 x0 x1 x2 x3 x4 x5 z0 z1 z2 z3 z4 z5 y0 y1 y2 y3 y4 y5 zf yf
          go_wp2_with fail
          obtain ⟨wf, hwf, hrw, hrw2, hbf, huw⟩ := fin12a (w1 := w6) HZ6.out HY6.out HB6.out (.int .i64 n.kind) (.string n.data) (.slice hh.A n.ptrs.length hh.a) (.int .i64 n.size) (.int .i64 n.count) (.slice hh.B n.items.length hh.b) (.int .i64 n.kind) (.string n.data) (.slice hc.A n.ptrs.length hc.a) (.int .i64 n.size) (.int .i64 n.count) (.slice hc.B n.items.length hc.b)
          rw [hwf]
          obtain ⟨e0, e1, e2, e3, e4, e5⟩ := cells6 (show wf.drew.heap[w.heap.size]? = _ from hrw)
          obtain ⟨g0, g1, g2, g3, g4, g5⟩ := cells6 (show wf.drew.heap[w.heap.size + 1]? = _ from hrw2)
          have huwd : Upon (w.heap.size + 2) (w6) wf.drew := ⟨huw.size, huw.block⟩
          have hbfd := hbf.drew
          exact bodyPost_ret (v := .tuple #[.agg #[.int .i64 n.kind, .string n.data, .slice hh.A n.ptrs.length hh.a, .int .i64 n.size, .int .i64 n.count, .slice hh.B n.items.length hh.b], .agg #[.int .i64 n.kind, .string n.data, (.slice hc.A n.ptrs.length hc.a), .int .i64 n.size, .int .i64 n.count, (.slice hc.B n.items.length hc.b)]])
            (by simp [results, Tryz.results18, go_sem, e0, e1, e2, e3, e4, e5, g0, g1, g2, g3, g4, g5]) rfl
            (⟨n, hh, n, hc, rfl, (((HN6.out.mono (by decide)).fromC (show w.heap.size + 2 ≤ w1.heap.size by omega)).uponC huwd).fromC (by omega), (by have := HSZN.out; omega), (((((HO6.out.nd.weak (S' := FromC w6 (w.heap.size + 2)) (fun k hk => ⟨by have := HGE.out k hk.1; omega, hk.2⟩)).mono (by decide) : NdAt w6 (FromC w6 (w.heap.size + 2)) 20 n hc)).uponC huwd).fromC (by omega)), (by have := HSZN.out; omega), hbfd⟩)
    · rw [hg] at ho2
      obtain ⟨hex0, hgm⟩ := ExR.start (z := z8) ho2 hnd2.2.1
      have HG := Lib.hid (HD2.out g hgm)
      have hg1 : W3.heap.size ≤ g := HG.out.1
      have hg2 : g < w4.heap.size := HG.out.2
      have HN1 : Hid (∀ b ∈ b1, b ∉ [g]) := Lib.hid (fun b hb e => hnd2.2.2 b hb g hgm (by simpa using e))
      rw [hg] at x5 HXX6
      have HEX0 := Lib.hid hex0
      clear hex0 hgm hle hg ho1 ho2 hnd' hnd2 hbs hdm hz8 HG
      go_wp2_with fail
      go_loopw [7] (fun i wr => ∃ k : Nat, i = .int .i64 k ∧ k ≤ n.items.length ∧ Hid (ExR n.items z8 g hc.b 18 b2 k wr) ∧ Hid (OnlyIn [g] w6 wr)) (fun i _ => n.items.length - (intOf i).toNat)
      case atStart => exact ⟨0, rfl, by omega, HEX0, Lib.hid (OnlyIn.refl _ _)⟩
      case round =>
        clear c0 c1 c2 c3 c4 c5 x0 x1 x2 x3 x4 x5 z0 z1 z2 z3 z4 z5 y0 y1 y2 y3 y4 y5 zf yf HEX0
        obtain ⟨k, rfl, hk, HE, HOI⟩ := hrel
        have hko : ∀ b, b < w6.heap.size → b ≠ g → wr.heap[b]? = w6.heap[b]? := fun b h1 h2 => HOI.out.block b h1 (by simpa using h2)
        have HXr := Lib.hid ((hko _ (by omega) (by omega)).trans HX6.out)
        have HXXr := Lib.hid ((hko _ (by omega) (by omega)).trans HXX6.out)
        have HZr := Lib.hid ((hko _ (by omega) (by omega)).trans HZ6.out)
        have HYr := Lib.hid ((hko _ (by omega) (by omega)).trans HY6.out)
        have HNBr := Lib.hid (HNB6.out.keepB (w' := wr) (fun k h1 h2 => hko k (by omega) (by omega)))
        clear hko
        obtain ⟨x0, x1, x2, x3, x4, x5⟩ := cells6 HXXr.out
        by_cases hlt : k < n.items.length
        · have hdk := HIDS.out k hlt
          obtain ⟨d1, df, hgl, hlc, hex⟩ := HE.out.at_ hlt (by have := HZ8.out; unfold maxLen; omega)
          have f1 : ¬ 9223372036854775807 < n.items[k].data.size + z8.size := by have := HZ8.out; omega
          have HE2 := Lib.hid (hex.below (Below.refl _ _).drew)
          have hoi2 : OnlyIn [g] w6 (wr.setCell ⟨g, k * 6 + 1, none⟩ (.string (n.items[k].data ++ z8))) := HOI.out.trans (OnlyIn.setCell (p := ⟨g, k * 6 + 1, none⟩) (by simp) _)
          have HOI2 := Lib.hid hoi2.drew
          have hdf := df (k * 6 + 1)
          clear hex df HE hoi2 hdk
          generalize n.items[k].data = yd at *
          clear x0 x1 x2 x3 x4 HX6 HXX6 HZ6 HY6 HB6 HRD6 HN6 HNB6 HO6 HXr HXXr HZr HYr HNBr HO1 HD1 HD2 HN1 HND HGE hlt4 HDM HIDS HSZN HZ8 HOI hs0 hs1 hs2 hs3 hs4 hs5 hs6 hd6 hR hRl HR0 HB1 HB2 hw13 hg1 hg2
          go_wp2_with fail
          go_region_with (go_at_call 54; go_must (refine (HM8.out _).mono ?_); rintro e w8 ⟨rfl, rfl⟩)
          all_goals
            clear x5 d1 hdf f1
            go_wp2
            go_roundw
            case rel => exact ⟨k + 1, by go_num, by omega, HE2, HOI2⟩
            case measure => simp [intOf]; omega
        · obtain rfl : k = n.items.length := by omega
          obtain ⟨bs', ho', hnd', hin⟩ := HE.out.done
          have HQr : Hid (OwS wr 19 (some ⟨g, 0, none⟩) hc.b (n.items.map (extN z8)) bs' ∧ ∀ b ∈ bs', w.heap.size + 2 ≤ b) := Lib.hid ⟨ho', fun b hb => by
            rcases hin b hb with rfl | hb
            · omega
            · have := (HD2.out b hb).1
              omega⟩
          have HPr := Lib.hid (HO1.out.only HOI.out HN1.out)
          have HBr := Lib.hid (HB6.out.trans (HOI.out.below HB6.out.size (fun b hb => by obtain rfl := List.mem_singleton.1 hb; omega)))
          clear ho' hnd' hin HE HOI
          obtain ⟨c0, c1, c2, c3, c4, c5⟩ := cells6 HXr.out
          obtain ⟨z0, z1, z2, z3, z4, z5⟩ := cells6 HZr.out
          obtain ⟨y0, y1, y2, y3, y4, y5⟩ := cells6 HYr.out
          have zf := row_free HZr.out
          have yf := row_free HYr.out
          go_wp2_with fail
          go_region
          all_goals
            clear c0 c1 c2 c3 c4 c5 x0 x1 x2 x3 x4 x5 z0 z1 z2 z3 z4 z5 y0 y1 y2 y3 y4 y5 zf yf
            go_wp2_with fail
            obtain ⟨wf, hwf, hrw, hrw2, hbf, huw⟩ := fin12a (w1 := wr) HZr.out HYr.out HBr.out (.int .i64 n.kind) (.string n.data) (.slice hh.A n.ptrs.length hh.a) (.int .i64 n.size) (.int .i64 n.count) (.slice hh.B n.items.length hh.b) (.int .i64 n.kind) (.string n.data) (.slice hc.A n.ptrs.length hc.a) (.int .i64 n.size) (.int .i64 n.count) (.slice (some ⟨g, 0, none⟩) n.items.length hc.b)
            rw [hwf]
            obtain ⟨e0, e1, e2, e3, e4, e5⟩ := cells6 (show wf.drew.heap[w.heap.size]? = _ from hrw)
            obtain ⟨g0, g1, g2, g3, g4, g5⟩ := cells6 (show wf.drew.heap[w.heap.size + 1]? = _ from hrw2)
            have huwd : Upon (w.heap.size + 2) (wr) wf.drew := ⟨huw.size, huw.block⟩
            have hbfd := hbf.drew
            exact bodyPost_ret (v := .tuple #[.agg #[.int .i64 n.kind, .string n.data, .slice hh.A n.ptrs.length hh.a, .int .i64 n.size, .int .i64 n.count, .slice hh.B n.items.length hh.b], .agg #[.int .i64 n.kind, .string n.data, (.slice hc.A n.ptrs.length hc.a), .int .i64 n.size, .int .i64 n.count, (.slice (some ⟨g, 0, none⟩) n.items.length hc.b)]])
              (by simp [results, Tryz.results18, go_sem, e0, e1, e2, e3, e4, e5, g0, g1, g2, g3, g4, g5]) rfl
              (⟨n, hh, .mk n.kind n.data n.ptrs n.size n.count (n.items.map (extN z8)), ⟨hc.A, hc.a, some ⟨g, 0, none⟩, hc.b⟩, by show _ = Ending.returned (.tuple #[_, .agg #[.int .i64 n.kind, .string n.data, .slice hc.A n.ptrs.length hc.a, .int .i64 n.size, .int .i64 n.count, .slice (some ⟨g, 0, none⟩) (n.items.map (extN z8)).length hc.b]]); rw [List.length_map], (((HNBr.out.unB.mono (by decide)).fromC (show w.heap.size + 2 ≤ w1.heap.size by omega)).uponC huwd).fromC (by omega), (by have := HSZN.out; omega), (((show NdAt wr (FromC wr (w.heap.size + 2)) 19 (.mk n.kind n.data n.ptrs n.size n.count (n.items.map (extN z8))) ⟨hc.A, hc.a, some ⟨g, 0, none⟩, hc.b⟩ from ⟨HDM.out, HPr.out.fromC (fun b hb => by have := HD1.out b hb; omega), HQr.out.1.fromC HQr.out.2⟩).mono (by decide)).uponC huwd).fromC (by omega), (by rw [siz_items, HZ8.out]; have := HSZN.out; have := HT.out.2; omega), hbfd⟩)
  ·
    go_wp2_with fail
    go_region
    all_goals
      clear c0 c1 c2 c3 c4 c5 x0 x1 x2 x3 x4 x5 z0 z1 z2 z3 z4 z5 y0 y1 y2 y3 y4 y5 zf yf
      go_wp2_with fail
      obtain ⟨wf, hwf, hrw, hrw2, hbf, huw⟩ := fin12a (w1 := w6) HZ6.out HY6.out HB6.out (.int .i64 n.kind) (.string n.data) (.slice hh.A n.ptrs.length hh.a) (.int .i64 n.size) (.int .i64 n.count) (.slice hh.B n.items.length hh.b) (.int .i64 n.kind) (.string n.data) (.slice hc.A n.ptrs.length hc.a) (.int .i64 n.size) (.int .i64 n.count) (.slice hc.B n.items.length hc.b)
      rw [hwf]
      obtain ⟨e0, e1, e2, e3, e4, e5⟩ := cells6 (show wf.drew.heap[w.heap.size]? = _ from hrw)
      obtain ⟨g0, g1, g2, g3, g4, g5⟩ := cells6 (show wf.drew.heap[w.heap.size + 1]? = _ from hrw2)
      have huwd : Upon (w.heap.size + 2) (w6) wf.drew := ⟨huw.size, huw.block⟩
      have hbfd := hbf.drew
      exact bodyPost_ret (v := .tuple #[.agg #[.int .i64 n.kind, .string n.data, .slice hh.A n.ptrs.length hh.a, .int .i64 n.size, .int .i64 n.count, .slice hh.B n.items.length hh.b], .agg #[.int .i64 n.kind, .string n.data, (.slice hc.A n.ptrs.length hc.a), .int .i64 n.size, .int .i64 n.count, (.slice hc.B n.items.length hc.b)]])
        (by simp [results, Tryz.results18, go_sem, e0, e1, e2, e3, e4, e5, g0, g1, g2, g3, g4, g5]) rfl
        (⟨n, hh, n, hc, rfl, (((HN6.out.mono (by decide)).fromC (show w.heap.size + 2 ≤ w1.heap.size by omega)).uponC huwd).fromC (by omega), (by have := HSZN.out; omega), (((((HO6.out.nd.weak (S' := FromC w6 (w.heap.size + 2)) (fun k hk => ⟨by have := HGE.out k hk.1; omega, hk.2⟩)).mono (by decide) : NdAt w6 (FromC w6 (w.heap.size + 2)) 20 n hc)).uponC huwd).fromC (by omega)), (by have := HSZN.out; omega), hbfd⟩)
end Go.Proofs.YtbijfkpilncclaaGreat
