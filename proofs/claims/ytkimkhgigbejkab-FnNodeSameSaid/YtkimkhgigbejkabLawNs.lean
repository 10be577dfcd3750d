/- The walk of the law FnNodeSame: true at every code. -/
import Derived.Test.YtkimkhgigbejkabNodeSame
import Derived.Test.YtkimkhgigbejkabNdSpecS
import Derived.Test.YtkimkhgigbejkabDrawNN
namespace Go.Proofs.Ytkimkhgigbejkab
open Go.RowKit
set_option maxHeartbeats 4000000 in
set_option maxRecDepth 100000 in
theorem walkNodeSame (w : World) (a : Option Addr) (len cap : Nat) (h : Arg w a len cap) :
    Calls Try.prog 3 #[.slice a len cap] w fun e w' => e = .returned (.bool true) ∧ Below w.heap.size w w' := by
  have hlen := h.1.1
  unfold maxLen at hlen
  by_cases hbig : 1048576 < len
  · go_enter Try.func3, Try.ntmps3
    go_wp2
    go_ret
    exact ⟨rfl, Below.refl _ _⟩
  have HD := Lib.hid (drawNodeSame_any a len cap w h)
  clear h
  go_enter Try.func3, Try.ntmps3
  go_wp2_with fail
  refine HD.out.mono ?_
  rintro e w1 ⟨n, h1, n', h2, rfl, hn, ht, hn', ht', hb1⟩
  obtain ⟨b, hb⟩ : ∃ b : Bool, (b = true ↔ n = n') := by
    by_cases e : n = n'
    · exact ⟨true, iff_true_of e⟩
    · exact ⟨false, iff_false_of e⟩
  have hb' : b = true ↔ n' = n := hb.trans eq_comm
  have hba : Below w1.heap.size w1 ((w1.alloc (.cells #[.int .i64 n.kind, .string n.data, .slice h1.A n.ptrs.length h1.a, .int .i64 n.size, .int .i64 n.count, .slice h1.B n.items.length h1.b] nodeT)).alloc (.cells #[.int .i64 n'.kind, .string n'.data, .slice h2.A n'.ptrs.length h2.a, .int .i64 n'.size, .int .i64 n'.count, .slice h2.B n'.items.length h2.b] nodeT)) := ((Below.refl _ _).alloc (Nat.le_refl _) _).alloc (by simp) _
  have HA : Hid (((w1.alloc (.cells #[.int .i64 n.kind, .string n.data, .slice h1.A n.ptrs.length h1.a, .int .i64 n.size, .int .i64 n.count, .slice h1.B n.items.length h1.b] nodeT)).alloc (.cells #[.int .i64 n'.kind, .string n'.data, .slice h2.A n'.ptrs.length h2.a, .int .i64 n'.size, .int .i64 n'.count, .slice h2.B n'.items.length h2.b] nodeT)).heap[w1.heap.size]? = some (.cells #[.int .i64 n.kind, .string n.data, .slice h1.A n.ptrs.length h1.a, .int .i64 n.size, .int .i64 n.count, .slice h1.B n.items.length h1.b] nodeT (0, 0))) := Lib.hid ((Below.heap_alloc _ _ _ (by simp)).trans (heap_alloc_new w1 _))
  have HB : Hid (((w1.alloc (.cells #[.int .i64 n.kind, .string n.data, .slice h1.A n.ptrs.length h1.a, .int .i64 n.size, .int .i64 n.count, .slice h1.B n.items.length h1.b] nodeT)).alloc (.cells #[.int .i64 n'.kind, .string n'.data, .slice h2.A n'.ptrs.length h2.a, .int .i64 n'.size, .int .i64 n'.count, .slice h2.B n'.items.length h2.b] nodeT)).heap[w1.heap.size + 1]? = some (.cells #[.int .i64 n'.kind, .string n'.data, .slice h2.A n'.ptrs.length h2.a, .int .i64 n'.size, .int .i64 n'.count, .slice h2.B n'.items.length h2.b] nodeT (0, 0))) := Lib.hid (by have := heap_alloc_new (w1.alloc (.cells #[.int .i64 n.kind, .string n.data, .slice h1.A n.ptrs.length h1.a, .int .i64 n.size, .int .i64 n.count, .slice h1.B n.items.length h1.b] nodeT)) (.cells #[.int .i64 n'.kind, .string n'.data, .slice h2.A n'.ptrs.length h2.a, .int .i64 n'.size, .int .i64 n'.count, .slice h2.B n'.items.length h2.b] nodeT); rwa [show (w1.alloc (.cells #[.int .i64 n.kind, .string n.data, .slice h1.A n.ptrs.length h1.a, .int .i64 n.size, .int .i64 n.count, .slice h1.B n.items.length h1.b] nodeT)).heap.size = w1.heap.size + 1 by simp] at this)
  have HB2 := Lib.hid (hb1.trans (hba.mono hb1.size))
  have HN := Lib.hid ((hn.belowC hba).cleanC)
  have HM := Lib.hid ((hn'.belowC hba).cleanC)
  have HT : Hid (totN 18 n ≤ 2000000 ∧ totN 18 n' ≤ 2000000) := Lib.hid (by omega)
  have HQ := Lib.hid hb
  have HQ' := Lib.hid hb'
  clear hn hn' ht ht' hb1 hba hb hb' HD
  obtain ⟨a0, a1, a2, a3, a4, a5⟩ := cells6 HA.out
  obtain ⟨b0, b1, b2, b3, b4, b5⟩ := cells6 HB.out
  go_wp2_with fail
  generalize ((w1.alloc (.cells #[.int .i64 n.kind, .string n.data, .slice h1.A n.ptrs.length h1.a, .int .i64 n.size, .int .i64 n.count, .slice h1.B n.items.length h1.b] nodeT)).alloc (.cells #[.int .i64 n'.kind, .string n'.data, .slice h2.A n'.ptrs.length h2.a, .int .i64 n'.size, .int .i64 n'.count, .slice h2.B n'.items.length h2.b] nodeT)) = W2 at *
  have HC1 : Hid (∀ W : World, Below W2.heap.size W2 W → NdAt W (Clean W) 18 n h1) := Lib.hid fun W hW => (HN.out.below hW).weak (fun _ hk => clean_low hk hW)
  have HC2 : Hid (∀ W : World, Below W2.heap.size W2 W → NdAt W (Clean W) 18 n' h2) := Lib.hid fun W hW => (HM.out.below hW).weak (fun _ hk => clean_low hk hW)
  have H1 : Hid (∀ W : World, Below W2.heap.size W2 W → Calls Try.prog 8 #[.agg #[.int .i64 n.kind, .string n.data, .slice h1.A n.ptrs.length h1.a, .int .i64 n.size, .int .i64 n.count, .slice h1.B n.items.length h1.b], .agg #[.int .i64 n'.kind, .string n'.data, .slice h2.A n'.ptrs.length h2.a, .int .i64 n'.size, .int .i64 n'.count, .slice h2.B n'.items.length h2.b]] W fun e w' => e = .returned (.bool b) ∧ Below W.heap.size W w') := Lib.hid fun W hW => implNodeSame_a 18 18 n n' h1 h2 W b (HC1.out W hW) (HC2.out W hW) HT.out.1 HQ.out
  have H2 : Hid (∀ W : World, Below W2.heap.size W2 W → Calls Try.prog 9 #[.agg #[.int .i64 n.kind, .string n.data, .slice h1.A n.ptrs.length h1.a, .int .i64 n.size, .int .i64 n.count, .slice h1.B n.items.length h1.b], .agg #[.int .i64 n'.kind, .string n'.data, .slice h2.A n'.ptrs.length h2.a, .int .i64 n'.size, .int .i64 n'.count, .slice h2.B n'.items.length h2.b]] W fun e w' => e = .returned (.bool b) ∧ Below W.heap.size W w') := Lib.hid fun W hW => specNodeSame_a 18 18 n n' h1 h2 W _ _ b (HC1.out W hW) (HC2.out W hW) HQ.out
  have H3 : Hid (∀ W : World, Below W2.heap.size W2 W → Calls Try.prog 8 #[.agg #[.int .i64 n'.kind, .string n'.data, .slice h2.A n'.ptrs.length h2.a, .int .i64 n'.size, .int .i64 n'.count, .slice h2.B n'.items.length h2.b], .agg #[.int .i64 n.kind, .string n.data, .slice h1.A n.ptrs.length h1.a, .int .i64 n.size, .int .i64 n.count, .slice h1.B n.items.length h1.b]] W fun e w' => e = .returned (.bool b) ∧ Below W.heap.size W w') := Lib.hid fun W hW => implNodeSame_a 18 18 n' n h2 h1 W b (HC2.out W hW) (HC1.out W hW) HT.out.2 HQ'.out
  have H4 : Hid (∀ W : World, Below W2.heap.size W2 W → Calls Try.prog 10 #[.agg #[.int .i64 n.kind, .string n.data, .slice h1.A n.ptrs.length h1.a, .int .i64 n.size, .int .i64 n.count, .slice h1.B n.items.length h1.b], .agg #[.int .i64 n'.kind, .string n'.data, .slice h2.A n'.ptrs.length h2.a, .int .i64 n'.size, .int .i64 n'.count, .slice h2.B n'.items.length h2.b]] W fun e w' => e = .returned (.bool b) ∧ Below W.heap.size W w') := Lib.hid fun W hW => qnN_any 18 18 n n' h1 h2 W _ _ b (HC1.out W hW) (HC2.out W hW) HQ.out
  have H5 : Hid (∀ W : World, Below W2.heap.size W2 W → Calls Try.prog 8 #[.agg #[.int .i64 n.kind, .string n.data, .slice h1.A n.ptrs.length h1.a, .int .i64 n.size, .int .i64 n.count, .slice h1.B n.items.length h1.b], .agg #[.int .i64 n.kind, .string n.data, .slice h1.A n.ptrs.length h1.a, .int .i64 n.size, .int .i64 n.count, .slice h1.B n.items.length h1.b]] W fun e w' => e = .returned (.bool true) ∧ Below W.heap.size W w') := Lib.hid fun W hW => implNodeSame_a 18 18 n n h1 h1 W true (HC1.out W hW) (HC1.out W hW) HT.out.1 (iff_true_of rfl)
  clear HC1 HC2 HQ HQ'
  cases b
  all_goals
    refine (H1.out _ (Below.refl _ _)).mono ?_
    rintro e w3 ⟨rfl, hb3⟩
    have HX3 := Lib.hid (hb3)
    clear hb3
    clear a0 a1 a2 a3 a4 a5 b0 b1 b2 b3 b4 b5
    obtain ⟨a0, a1, a2, a3, a4, a5⟩ := cells6 ((HX3.out.block _ (row_lt HA.out)).trans HA.out)
    obtain ⟨b0, b1, b2, b3, b4, b5⟩ := cells6 ((HX3.out.block _ (row_lt HB.out)).trans HB.out)
    go_wp2_with fail
    refine (H2.out _ HX3.out).mono ?_
    rintro e w4 ⟨rfl, hb4⟩
    have HX4 := Lib.hid (HX3.out.trans (hb4.mono HX3.out.size))
    clear hb4
    clear a0 a1 a2 a3 a4 a5 b0 b1 b2 b3 b4 b5
    obtain ⟨a0, a1, a2, a3, a4, a5⟩ := cells6 ((HX4.out.block _ (row_lt HA.out)).trans HA.out)
    obtain ⟨b0, b1, b2, b3, b4, b5⟩ := cells6 ((HX4.out.block _ (row_lt HB.out)).trans HB.out)
    go_wp2_with fail
    refine (H3.out _ HX4.out).mono ?_
    rintro e w5 ⟨rfl, hb5⟩
    have HX5 := Lib.hid (HX4.out.trans (hb5.mono HX4.out.size))
    clear hb5
    clear a0 a1 a2 a3 a4 a5 b0 b1 b2 b3 b4 b5
    obtain ⟨a0, a1, a2, a3, a4, a5⟩ := cells6 ((HX5.out.block _ (row_lt HA.out)).trans HA.out)
    obtain ⟨b0, b1, b2, b3, b4, b5⟩ := cells6 ((HX5.out.block _ (row_lt HB.out)).trans HB.out)
    go_wp2_with fail
    refine (H4.out _ HX5.out).mono ?_
    rintro e w6 ⟨rfl, hb6⟩
    have HX6 := Lib.hid (HX5.out.trans (hb6.mono HX5.out.size))
    clear hb6
    clear a0 a1 a2 a3 a4 a5 b0 b1 b2 b3 b4 b5
    obtain ⟨a0, a1, a2, a3, a4, a5⟩ := cells6 ((HX6.out.block _ (row_lt HA.out)).trans HA.out)
    obtain ⟨b0, b1, b2, b3, b4, b5⟩ := cells6 ((HX6.out.block _ (row_lt HB.out)).trans HB.out)
    go_wp2_with fail
    refine (H5.out _ HX6.out).mono ?_
    rintro e w7 ⟨rfl, hb7⟩
    have HX7 := Lib.hid (HX6.out.trans (hb7.mono HX6.out.size))
    clear hb7
    clear a0 a1 a2 a3 a4 a5 b0 b1 b2 b3 b4 b5
    go_wp2
    go_ret
    exact ⟨rfl, HB2.out.trans (HX7.out.mono HB2.out.size)⟩
end Go.Proofs.Ytkimkhgigbejkab
