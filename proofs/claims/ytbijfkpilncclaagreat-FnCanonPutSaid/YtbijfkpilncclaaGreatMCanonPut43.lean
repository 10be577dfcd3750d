/- Texts of the proof of the law FnCanonPut, side by side: part 43. -/
import Derived.Test.YtbijfkpilncclaaGreatMCanonPut00
import Derived.Test.YtbijfkpilncclaaGreatMCanonPut01
import Derived.Test.YtbijfkpilncclaaGreatMCanonPut02
import Derived.Test.YtbijfkpilncclaaGreatMCanonPut03
import Derived.Test.YtbijfkpilncclaaGreatMCanonPut04
import Derived.Test.YtbijfkpilncclaaGreatMCanonPut05
import Derived.Test.YtbijfkpilncclaaGreatMCanonPut06
import Derived.Test.YtbijfkpilncclaaGreatMCanonPut07
import Derived.Test.YtbijfkpilncclaaGreatMCanonPut08
import Derived.Test.YtbijfkpilncclaaGreatMCanonPut09
import Derived.Test.YtbijfkpilncclaaGreatMCanonPut10
import Derived.Test.YtbijfkpilncclaaGreatMCanonPut11
import Derived.Test.YtbijfkpilncclaaGreatMCanonPut12
import Derived.Test.YtbijfkpilncclaaGreatMCanonPut13
import Derived.Test.YtbijfkpilncclaaGreatMCanonPut14
import Derived.Test.YtbijfkpilncclaaGreatMCanonPut15
import Derived.Test.YtbijfkpilncclaaGreatMCanonPut16
import Derived.Test.YtbijfkpilncclaaGreatMCanonPut17
import Derived.Test.YtbijfkpilncclaaGreatMCanonPut18
import Derived.Test.YtbijfkpilncclaaGreatMCanonPut19
import Derived.Test.YtbijfkpilncclaaGreatMCanonPut20
import Derived.Test.YtbijfkpilncclaaGreatMCanonPut21
import Derived.Test.YtbijfkpilncclaaGreatMCanonPut22
import Derived.Test.YtbijfkpilncclaaGreatMCanonPut23
import Derived.Test.YtbijfkpilncclaaGreatMCanonPut24
import Derived.Test.YtbijfkpilncclaaGreatMCanonPut25
import Derived.Test.YtbijfkpilncclaaGreatMCanonPut26
import Derived.Test.YtbijfkpilncclaaGreatMCanonPut27
import Derived.Test.YtbijfkpilncclaaGreatMCanonPut28
import Derived.Test.YtbijfkpilncclaaGreatMCanonPut29
import Derived.Test.YtbijfkpilncclaaGreatMCanonPut30
import Derived.Test.YtbijfkpilncclaaGreatMCanonPut31
import Derived.Test.YtbijfkpilncclaaGreatMCanonPut32
import Derived.Test.YtbijfkpilncclaaGreatMCanonPut33
import Derived.Test.YtbijfkpilncclaaGreatMCanonPut34
import Derived.Test.YtbijfkpilncclaaGreatMCanonPut35
import Derived.Test.YtbijfkpilncclaaGreatMCanonPut36
import Derived.Test.YtbijfkpilncclaaGreatMCanonPut37
import Derived.Test.YtbijfkpilncclaaGreatMCanonPut38
import Derived.Test.YtbijfkpilncclaaGreatMCanonPut39
import Derived.Test.YtbijfkpilncclaaGreatMCanonPut40
import Derived.Test.YtbijfkpilncclaaGreatMCanonPut41
import Derived.Test.YtbijfkpilncclaaGreatMCanonPut42
namespace Go.Proofs.YtbijfkpilncclaaGreat
open Go.RowKit Go.Deep
set_option maxHeartbeats 8000000 in
set_option maxRecDepth 100000 in
theorem walkCanonPut (w : World) (a : Option Addr) (len cap : Nat) (h : Arg w a len cap) :
    Calls Tryz.prog 6 #[.slice a len cap] w fun e w' => e = .returned (.bool true) ∧ Below w.heap.size w w' := by
  have hlen := h.1.1
  unfold maxLen at hlen
  by_cases hbig : 1048576 < len
  · go_enter Tryz.func6, Tryz.ntmps6
    go_wp2
    go_ret
    exact ⟨rfl, Below.refl _ _⟩
  have HD := Lib.hid (drawAlike_any a len cap w h)
  clear h
  go_enter Tryz.func6, Tryz.ntmps6
  go_wp2_with fail
  refine HD.out.mono ?_
  rintro e w1 ⟨n, h1, n', h2, rfl, hn, hsz, hn', hsz', hb1⟩
  obtain ⟨b, hb⟩ : ∃ b : Bool, (b = true ↔ (nodeOk n = true ∧ nodeOk n' = true ∧ canN n = canN n')) := by
    by_cases e : nodeOk n = true ∧ nodeOk n' = true ∧ canN n = canN n'
    · exact ⟨true, iff_true_of e⟩
    · exact ⟨false, iff_false_of e⟩
  have ht : totN 20 n ≤ 2000000 := by rw [totN_siz hn]; omega
  have ht' : totN 20 n' ≤ 2000000 := by rw [totN_siz hn']; omega
  have hba : Below w1.heap.size w1 ((w1.alloc (.cells #[.int .i64 n.kind, .string n.data, .slice h1.A n.ptrs.length h1.a, .int .i64 n.size, .int .i64 n.count, .slice h1.B n.items.length h1.b] nodeT)).alloc (.cells #[.int .i64 n'.kind, .string n'.data, .slice h2.A n'.ptrs.length h2.a, .int .i64 n'.size, .int .i64 n'.count, .slice h2.B n'.items.length h2.b] nodeT)) := ((Below.refl _ _).alloc (Nat.le_refl _) _).alloc (by simp) _
  have HA : Hid (((w1.alloc (.cells #[.int .i64 n.kind, .string n.data, .slice h1.A n.ptrs.length h1.a, .int .i64 n.size, .int .i64 n.count, .slice h1.B n.items.length h1.b] nodeT)).alloc (.cells #[.int .i64 n'.kind, .string n'.data, .slice h2.A n'.ptrs.length h2.a, .int .i64 n'.size, .int .i64 n'.count, .slice h2.B n'.items.length h2.b] nodeT)).heap[w1.heap.size]? = some (.cells #[.int .i64 n.kind, .string n.data, .slice h1.A n.ptrs.length h1.a, .int .i64 n.size, .int .i64 n.count, .slice h1.B n.items.length h1.b] nodeT (0, 0))) := Lib.hid ((Below.heap_alloc _ _ _ (by simp)).trans (heap_alloc_new w1 _))
  have HB : Hid (((w1.alloc (.cells #[.int .i64 n.kind, .string n.data, .slice h1.A n.ptrs.length h1.a, .int .i64 n.size, .int .i64 n.count, .slice h1.B n.items.length h1.b] nodeT)).alloc (.cells #[.int .i64 n'.kind, .string n'.data, .slice h2.A n'.ptrs.length h2.a, .int .i64 n'.size, .int .i64 n'.count, .slice h2.B n'.items.length h2.b] nodeT)).heap[w1.heap.size + 1]? = some (.cells #[.int .i64 n'.kind, .string n'.data, .slice h2.A n'.ptrs.length h2.a, .int .i64 n'.size, .int .i64 n'.count, .slice h2.B n'.items.length h2.b] nodeT (0, 0))) := Lib.hid (by have := heap_alloc_new (w1.alloc (.cells #[.int .i64 n.kind, .string n.data, .slice h1.A n.ptrs.length h1.a, .int .i64 n.size, .int .i64 n.count, .slice h1.B n.items.length h1.b] nodeT)) (.cells #[.int .i64 n'.kind, .string n'.data, .slice h2.A n'.ptrs.length h2.a, .int .i64 n'.size, .int .i64 n'.count, .slice h2.B n'.items.length h2.b] nodeT); rwa [show (w1.alloc (.cells #[.int .i64 n.kind, .string n.data, .slice h1.A n.ptrs.length h1.a, .int .i64 n.size, .int .i64 n.count, .slice h1.B n.items.length h1.b] nodeT)).heap.size = w1.heap.size + 1 by simp] at this)
  have HB2 := Lib.hid (hb1.trans (hba.mono hb1.size))
  have HN := Lib.hid (hn.belowC hba)
  have HM := Lib.hid (hn'.belowC hba)
  have HT := Lib.hid (And.intro ht ht')
  have HSZ := Lib.hid (And.intro hsz hsz')
  have HQ := Lib.hid hb
  clear hn hn' ht ht' hsz hsz' hb1 hba hb HD
  obtain ⟨a0, a1, a2, a3, a4, a5⟩ := cells6 HA.out
  obtain ⟨b0, b1, b2, b3, b4, b5⟩ := cells6 HB.out
  go_wp2_with fail
  generalize ((w1.alloc (.cells #[.int .i64 n.kind, .string n.data, .slice h1.A n.ptrs.length h1.a, .int .i64 n.size, .int .i64 n.count, .slice h1.B n.items.length h1.b] nodeT)).alloc (.cells #[.int .i64 n'.kind, .string n'.data, .slice h2.A n'.ptrs.length h2.a, .int .i64 n'.size, .int .i64 n'.count, .slice h2.B n'.items.length h2.b] nodeT)) = W2 at *
  have H1 : Hid (∀ W : World, Below W2.heap.size W2 W → Calls Tryz.prog 19 #[.agg #[.int .i64 n.kind, .string n.data, .slice h1.A n.ptrs.length h1.a, .int .i64 n.size, .int .i64 n.count, .slice h1.B n.items.length h1.b], .agg #[.int .i64 n'.kind, .string n'.data, .slice h2.A n'.ptrs.length h2.a, .int .i64 n'.size, .int .i64 n'.count, .slice h2.B n'.items.length h2.b]] W fun e w' => e = .returned (.bool b) ∧ Below W.heap.size W w') := Lib.hid fun W hW => implAlike_a 20 20 n n' h1 h2 W _ _ b (HN.out.below hW) (HM.out.below hW) HT.out.1 HT.out.2 HQ.out
  have H2 : Hid (∀ W : World, Below W2.heap.size W2 W → Calls Tryz.prog 20 #[.agg #[.int .i64 n.kind, .string n.data, .slice h1.A n.ptrs.length h1.a, .int .i64 n.size, .int .i64 n.count, .slice h1.B n.items.length h1.b], .agg #[.int .i64 n'.kind, .string n'.data, .slice h2.A n'.ptrs.length h2.a, .int .i64 n'.size, .int .i64 n'.count, .slice h2.B n'.items.length h2.b]] W fun e w' => e = .returned (.bool b) ∧ Below W.heap.size W w') := Lib.hid fun W hW => specAlike_a 20 20 n n' h1 h2 W _ _ b (HN.out.below hW) (HM.out.below hW) HT.out.1 HT.out.2 HQ.out
  have HP := Lib.hid (fun (W : World) (hW : Below W2.heap.size W2 W) => (implCanonPut_a 20 n h1 W _ (HN.out.below hW) HT.out.1).mono (fun _ _ h => h.two))
  have HP' := Lib.hid (fun (W : World) (hW : Below W2.heap.size W2 W) => (implCanonPut_a 20 n' h2 W _ (HM.out.below hW) HT.out.2).mono (fun _ _ h => h.two))
  have HS := Lib.hid (fun (W : World) (hW : Below W2.heap.size W2 W) => (specCanonPut_a 20 n h1 W _ (HN.out.below hW) HT.out.1).mono (fun _ _ h => h.two))
  have H3 : Hid (∀ W : World, Below W2.heap.size W2 W → Calls Tryz.prog 19 #[.agg #[.int .i64 n'.kind, .string n'.data, .slice h2.A n'.ptrs.length h2.a, .int .i64 n'.size, .int .i64 n'.count, .slice h2.B n'.items.length h2.b], .agg #[.int .i64 n.kind, .string n.data, .slice h1.A n.ptrs.length h1.a, .int .i64 n.size, .int .i64 n.count, .slice h1.B n.items.length h1.b]] W fun e w' => e = .returned (.bool b) ∧ Below W.heap.size W w') := Lib.hid fun W hW => implAlike_a 20 20 n' n h2 h1 W _ _ b (HM.out.below hW) (HN.out.below hW) HT.out.2 HT.out.1 (HQ.out.trans ⟨fun ⟨x, y, z⟩ => ⟨y, x, z.symm⟩, fun ⟨x, y, z⟩ => ⟨y, x, z.symm⟩⟩)
  have H4 : Hid (oneB (cpV n) = true → ∀ W : World, Below W2.heap.size W2 W → Calls Tryz.prog 19 #[.agg #[.int .i64 n.kind, .string n.data, .slice h1.A n.ptrs.length h1.a, .int .i64 n.size, .int .i64 n.count, .slice h1.B n.items.length h1.b], .agg #[.int .i64 n.kind, .string n.data, .slice h1.A n.ptrs.length h1.a, .int .i64 n.size, .int .i64 n.count, .slice h1.B n.items.length h1.b]] W fun e w' => e = .returned (.bool true) ∧ Below W.heap.size W w') := Lib.hid fun hx W hW => implAlike_a 20 20 n n h1 h1 W _ _ true (HN.out.below hW) (HN.out.below hW) HT.out.1 HT.out.1 (iff_true_of ⟨cp_ok hx, cp_ok hx, rfl⟩)
  have HE : Hid (oneB (cpV n) = true → oneB (cpV n') = true → ((oneS (cpV n)).toList == (oneS (cpV n')).toList) = b) := Lib.hid fun hx hy => cp_alike hx hy HQ.out
  generalize oneB (cpV n) = p at *
  generalize oneB (cpV n') = q at *
  generalize oneS (cpV n) = P at *
  generalize oneS (cpV n') = Q at *
  clear HQ HN HM HT HSZ
  cases p
  · clear H3 H4 HE
    cases b
    all_goals
      refine (HP.out _ (Below.refl _ _)).mono ?_
      rintro e w3 ⟨rfl, hb3⟩
      have HX3 := Lib.hid hb3
      clear hb3 a0 a1 a2 a3 a4 a5 b0 b1 b2 b3 b4 b5
      obtain ⟨a0, a1, a2, a3, a4, a5⟩ := cells6 ((HX3.out.block _ (row_lt HA.out)).trans HA.out)
      obtain ⟨b0, b1, b2, b3, b4, b5⟩ := cells6 ((HX3.out.block _ (row_lt HB.out)).trans HB.out)
      go_wp2_with fail
      refine (HP'.out _ HX3.out).mono ?_
      rintro e w4 ⟨rfl, hb4⟩
      have HX4 := Lib.hid (HX3.out.trans (hb4.mono HX3.out.size))
      clear hb4 a0 a1 a2 a3 a4 a5 b0 b1 b2 b3 b4 b5
      obtain ⟨a0, a1, a2, a3, a4, a5⟩ := cells6 ((HX4.out.block _ (row_lt HA.out)).trans HA.out)
      obtain ⟨b0, b1, b2, b3, b4, b5⟩ := cells6 ((HX4.out.block _ (row_lt HB.out)).trans HB.out)
      go_wp2_with fail
      refine (HS.out _ HX4.out).mono ?_
      rintro e w5 ⟨rfl, hb5⟩
      have HX5 := Lib.hid (HX4.out.trans (hb5.mono HX4.out.size))
      clear hb5 a0 a1 a2 a3 a4 a5 b0 b1 b2 b3 b4 b5
      obtain ⟨a0, a1, a2, a3, a4, a5⟩ := cells6 ((HX5.out.block _ (row_lt HA.out)).trans HA.out)
      obtain ⟨b0, b1, b2, b3, b4, b5⟩ := cells6 ((HX5.out.block _ (row_lt HB.out)).trans HB.out)
      go_wp2_with fail
      refine (H1.out _ HX5.out).mono ?_
      rintro e w6 ⟨rfl, hb6⟩
      have HX6 := Lib.hid (HX5.out.trans (hb6.mono HX5.out.size))
      clear hb6 a0 a1 a2 a3 a4 a5 b0 b1 b2 b3 b4 b5
      obtain ⟨a0, a1, a2, a3, a4, a5⟩ := cells6 ((HX6.out.block _ (row_lt HA.out)).trans HA.out)
      obtain ⟨b0, b1, b2, b3, b4, b5⟩ := cells6 ((HX6.out.block _ (row_lt HB.out)).trans HB.out)
      go_wp2_with fail
      refine (H2.out _ HX6.out).mono ?_
      rintro e w7 ⟨rfl, hb7⟩
      have HX7 := Lib.hid (HX6.out.trans (hb7.mono HX6.out.size))
      clear hb7 a0 a1 a2 a3 a4 a5 b0 b1 b2 b3 b4 b5
      obtain ⟨a0, a1, a2, a3, a4, a5⟩ := cells6 ((HX7.out.block _ (row_lt HA.out)).trans HA.out)
      obtain ⟨b0, b1, b2, b3, b4, b5⟩ := cells6 ((HX7.out.block _ (row_lt HB.out)).trans HB.out)
      go_wp2_with fail
      refine (H2.out _ HX7.out).mono ?_
      rintro e w8 ⟨rfl, hb8⟩
      have HXF := Lib.hid (HB2.out.trans ((HX7.out.trans (hb8.mono HX7.out.size)).mono HB2.out.size))
      clear hb8 a0 a1 a2 a3 a4 a5 b0 b1 b2 b3 b4 b5
      go_wp2
      go_ret
      exact ⟨rfl, HXF.out⟩
  · replace H4 := Lib.hid (H4.out rfl)
    replace HE := Lib.hid (HE.out rfl)
    cases q
    · clear H3 H4 HE
      cases b
      all_goals
        refine (HP.out _ (Below.refl _ _)).mono ?_
        rintro e w3 ⟨rfl, hb3⟩
        have HX3 := Lib.hid hb3
        clear hb3 a0 a1 a2 a3 a4 a5 b0 b1 b2 b3 b4 b5
        obtain ⟨a0, a1, a2, a3, a4, a5⟩ := cells6 ((HX3.out.block _ (row_lt HA.out)).trans HA.out)
        obtain ⟨b0, b1, b2, b3, b4, b5⟩ := cells6 ((HX3.out.block _ (row_lt HB.out)).trans HB.out)
        go_wp2_with fail
        refine (HP'.out _ HX3.out).mono ?_
        rintro e w4 ⟨rfl, hb4⟩
        have HX4 := Lib.hid (HX3.out.trans (hb4.mono HX3.out.size))
        clear hb4 a0 a1 a2 a3 a4 a5 b0 b1 b2 b3 b4 b5
        obtain ⟨a0, a1, a2, a3, a4, a5⟩ := cells6 ((HX4.out.block _ (row_lt HA.out)).trans HA.out)
        obtain ⟨b0, b1, b2, b3, b4, b5⟩ := cells6 ((HX4.out.block _ (row_lt HB.out)).trans HB.out)
        go_wp2_with fail
        refine (HS.out _ HX4.out).mono ?_
        rintro e w5 ⟨rfl, hb5⟩
        have HX5 := Lib.hid (HX4.out.trans (hb5.mono HX4.out.size))
        clear hb5 a0 a1 a2 a3 a4 a5 b0 b1 b2 b3 b4 b5
        obtain ⟨a0, a1, a2, a3, a4, a5⟩ := cells6 ((HX5.out.block _ (row_lt HA.out)).trans HA.out)
        obtain ⟨b0, b1, b2, b3, b4, b5⟩ := cells6 ((HX5.out.block _ (row_lt HB.out)).trans HB.out)
        go_wp2_with fail
        refine (H1.out _ HX5.out).mono ?_
        rintro e w6 ⟨rfl, hb6⟩
        have HX6 := Lib.hid (HX5.out.trans (hb6.mono HX5.out.size))
        clear hb6 a0 a1 a2 a3 a4 a5 b0 b1 b2 b3 b4 b5
        obtain ⟨a0, a1, a2, a3, a4, a5⟩ := cells6 ((HX6.out.block _ (row_lt HA.out)).trans HA.out)
        obtain ⟨b0, b1, b2, b3, b4, b5⟩ := cells6 ((HX6.out.block _ (row_lt HB.out)).trans HB.out)
        go_wp2_with fail
        refine (H2.out _ HX6.out).mono ?_
        rintro e w7 ⟨rfl, hb7⟩
        have HX7 := Lib.hid (HX6.out.trans (hb7.mono HX6.out.size))
        clear hb7 a0 a1 a2 a3 a4 a5 b0 b1 b2 b3 b4 b5
        obtain ⟨a0, a1, a2, a3, a4, a5⟩ := cells6 ((HX7.out.block _ (row_lt HA.out)).trans HA.out)
        obtain ⟨b0, b1, b2, b3, b4, b5⟩ := cells6 ((HX7.out.block _ (row_lt HB.out)).trans HB.out)
        go_wp2_with fail
        refine (H2.out _ HX7.out).mono ?_
        rintro e w8 ⟨rfl, hb8⟩
        have HXF := Lib.hid (HB2.out.trans ((HX7.out.trans (hb8.mono HX7.out.size)).mono HB2.out.size))
        clear hb8 a0 a1 a2 a3 a4 a5 b0 b1 b2 b3 b4 b5
        go_wp2
        go_ret
        exact ⟨rfl, HXF.out⟩
    · have hE := HE.out rfl
      clear HE
      cases b
      · skip
        refine (HP.out _ (Below.refl _ _)).mono ?_
        rintro e w3 ⟨rfl, hb3⟩
        have HX3 := Lib.hid hb3
        clear hb3 a0 a1 a2 a3 a4 a5 b0 b1 b2 b3 b4 b5
        obtain ⟨a0, a1, a2, a3, a4, a5⟩ := cells6 ((HX3.out.block _ (row_lt HA.out)).trans HA.out)
        obtain ⟨b0, b1, b2, b3, b4, b5⟩ := cells6 ((HX3.out.block _ (row_lt HB.out)).trans HB.out)
        go_wp2_with fail
        refine (HP'.out _ HX3.out).mono ?_
        rintro e w4 ⟨rfl, hb4⟩
        have HX4 := Lib.hid (HX3.out.trans (hb4.mono HX3.out.size))
        clear hb4 a0 a1 a2 a3 a4 a5 b0 b1 b2 b3 b4 b5
        obtain ⟨a0, a1, a2, a3, a4, a5⟩ := cells6 ((HX4.out.block _ (row_lt HA.out)).trans HA.out)
        obtain ⟨b0, b1, b2, b3, b4, b5⟩ := cells6 ((HX4.out.block _ (row_lt HB.out)).trans HB.out)
        go_wp2_with fail
        refine (HS.out _ HX4.out).mono ?_
        rintro e w5 ⟨rfl, hb5⟩
        have HX5 := Lib.hid (HX4.out.trans (hb5.mono HX4.out.size))
        clear hb5 a0 a1 a2 a3 a4 a5 b0 b1 b2 b3 b4 b5
        obtain ⟨a0, a1, a2, a3, a4, a5⟩ := cells6 ((HX5.out.block _ (row_lt HA.out)).trans HA.out)
        obtain ⟨b0, b1, b2, b3, b4, b5⟩ := cells6 ((HX5.out.block _ (row_lt HB.out)).trans HB.out)
        go_wp2_with fail
        refine (H1.out _ HX5.out).mono ?_
        rintro e w6 ⟨rfl, hb6⟩
        have HX6 := Lib.hid (HX5.out.trans (hb6.mono HX5.out.size))
        clear hb6 a0 a1 a2 a3 a4 a5 b0 b1 b2 b3 b4 b5
        obtain ⟨a0, a1, a2, a3, a4, a5⟩ := cells6 ((HX6.out.block _ (row_lt HA.out)).trans HA.out)
        obtain ⟨b0, b1, b2, b3, b4, b5⟩ := cells6 ((HX6.out.block _ (row_lt HB.out)).trans HB.out)
        go_wp2_with fail
        refine (H2.out _ HX6.out).mono ?_
        rintro e w7 ⟨rfl, hb7⟩
        have HX7 := Lib.hid (HX6.out.trans (hb7.mono HX6.out.size))
        clear hb7 a0 a1 a2 a3 a4 a5 b0 b1 b2 b3 b4 b5
        obtain ⟨a0, a1, a2, a3, a4, a5⟩ := cells6 ((HX7.out.block _ (row_lt HA.out)).trans HA.out)
        obtain ⟨b0, b1, b2, b3, b4, b5⟩ := cells6 ((HX7.out.block _ (row_lt HB.out)).trans HB.out)
        go_wp2_with fail
        refine (H3.out _ HX7.out).mono ?_
        rintro e w8 ⟨rfl, hb8⟩
        have HX8 := Lib.hid (HX7.out.trans (hb8.mono HX7.out.size))
        clear hb8 a0 a1 a2 a3 a4 a5 b0 b1 b2 b3 b4 b5
        obtain ⟨a0, a1, a2, a3, a4, a5⟩ := cells6 ((HX8.out.block _ (row_lt HA.out)).trans HA.out)
        obtain ⟨b0, b1, b2, b3, b4, b5⟩ := cells6 ((HX8.out.block _ (row_lt HB.out)).trans HB.out)
        go_wp2_with fail
        refine (H4.out _ HX8.out).mono ?_
        rintro e w9 ⟨rfl, hb9⟩
        have HXF := Lib.hid (HB2.out.trans ((HX8.out.trans (hb9.mono HX8.out.size)).mono HB2.out.size))
        clear hb9 a0 a1 a2 a3 a4 a5 b0 b1 b2 b3 b4 b5
        go_wp2
        go_ret
        exact ⟨rfl, HXF.out⟩
      · skip
        refine (HP.out _ (Below.refl _ _)).mono ?_
        rintro e w3 ⟨rfl, hb3⟩
        have HX3 := Lib.hid hb3
        clear hb3 a0 a1 a2 a3 a4 a5 b0 b1 b2 b3 b4 b5
        obtain ⟨a0, a1, a2, a3, a4, a5⟩ := cells6 ((HX3.out.block _ (row_lt HA.out)).trans HA.out)
        obtain ⟨b0, b1, b2, b3, b4, b5⟩ := cells6 ((HX3.out.block _ (row_lt HB.out)).trans HB.out)
        go_wp2_with fail
        refine (HP'.out _ HX3.out).mono ?_
        rintro e w4 ⟨rfl, hb4⟩
        have HX4 := Lib.hid (HX3.out.trans (hb4.mono HX3.out.size))
        clear hb4 a0 a1 a2 a3 a4 a5 b0 b1 b2 b3 b4 b5
        obtain ⟨a0, a1, a2, a3, a4, a5⟩ := cells6 ((HX4.out.block _ (row_lt HA.out)).trans HA.out)
        obtain ⟨b0, b1, b2, b3, b4, b5⟩ := cells6 ((HX4.out.block _ (row_lt HB.out)).trans HB.out)
        go_wp2_with fail
        refine (HS.out _ HX4.out).mono ?_
        rintro e w5 ⟨rfl, hb5⟩
        have HX5 := Lib.hid (HX4.out.trans (hb5.mono HX4.out.size))
        clear hb5 a0 a1 a2 a3 a4 a5 b0 b1 b2 b3 b4 b5
        obtain ⟨a0, a1, a2, a3, a4, a5⟩ := cells6 ((HX5.out.block _ (row_lt HA.out)).trans HA.out)
        obtain ⟨b0, b1, b2, b3, b4, b5⟩ := cells6 ((HX5.out.block _ (row_lt HB.out)).trans HB.out)
        go_wp2_with fail
        refine (H1.out _ HX5.out).mono ?_
        rintro e w6 ⟨rfl, hb6⟩
        have HX6 := Lib.hid (HX5.out.trans (hb6.mono HX5.out.size))
        clear hb6 a0 a1 a2 a3 a4 a5 b0 b1 b2 b3 b4 b5
        obtain ⟨a0, a1, a2, a3, a4, a5⟩ := cells6 ((HX6.out.block _ (row_lt HA.out)).trans HA.out)
        obtain ⟨b0, b1, b2, b3, b4, b5⟩ := cells6 ((HX6.out.block _ (row_lt HB.out)).trans HB.out)
        go_wp2_with fail
        refine (H2.out _ HX6.out).mono ?_
        rintro e w7 ⟨rfl, hb7⟩
        have HX7 := Lib.hid (HX6.out.trans (hb7.mono HX6.out.size))
        clear hb7 a0 a1 a2 a3 a4 a5 b0 b1 b2 b3 b4 b5
        obtain ⟨a0, a1, a2, a3, a4, a5⟩ := cells6 ((HX7.out.block _ (row_lt HA.out)).trans HA.out)
        obtain ⟨b0, b1, b2, b3, b4, b5⟩ := cells6 ((HX7.out.block _ (row_lt HB.out)).trans HB.out)
        go_wp2_with fail
        refine (H3.out _ HX7.out).mono ?_
        rintro e w8 ⟨rfl, hb8⟩
        have HX8 := Lib.hid (HX7.out.trans (hb8.mono HX7.out.size))
        clear hb8 a0 a1 a2 a3 a4 a5 b0 b1 b2 b3 b4 b5
        obtain ⟨a0, a1, a2, a3, a4, a5⟩ := cells6 ((HX8.out.block _ (row_lt HA.out)).trans HA.out)
        obtain ⟨b0, b1, b2, b3, b4, b5⟩ := cells6 ((HX8.out.block _ (row_lt HB.out)).trans HB.out)
        go_wp2_with fail
        refine (H4.out _ HX8.out).mono ?_
        rintro e w9 ⟨rfl, hb9⟩
        have HXF := Lib.hid (HB2.out.trans ((HX8.out.trans (hb9.mono HX8.out.size)).mono HB2.out.size))
        clear hb9 a0 a1 a2 a3 a4 a5 b0 b1 b2 b3 b4 b5
        go_wp2
        go_ret
        exact ⟨rfl, HXF.out⟩
end Go.Proofs.YtbijfkpilncclaaGreat
