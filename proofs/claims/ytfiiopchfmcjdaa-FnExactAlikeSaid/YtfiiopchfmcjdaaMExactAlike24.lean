/- Texts of the proof of the law FnExactAlike, side by side: part 24. -/
import Derived.Test.YtfiiopchfmcjdaaMExactAlike00
import Derived.Test.YtfiiopchfmcjdaaMExactAlike01
import Derived.Test.YtfiiopchfmcjdaaMExactAlike02
import Derived.Test.YtfiiopchfmcjdaaMExactAlike03
import Derived.Test.YtfiiopchfmcjdaaMExactAlike04
import Derived.Test.YtfiiopchfmcjdaaMExactAlike05
import Derived.Test.YtfiiopchfmcjdaaMExactAlike06
import Derived.Test.YtfiiopchfmcjdaaMExactAlike07
import Derived.Test.YtfiiopchfmcjdaaMExactAlike08
import Derived.Test.YtfiiopchfmcjdaaMExactAlike09
import Derived.Test.YtfiiopchfmcjdaaMExactAlike10
import Derived.Test.YtfiiopchfmcjdaaMExactAlike11
import Derived.Test.YtfiiopchfmcjdaaMExactAlike12
import Derived.Test.YtfiiopchfmcjdaaMExactAlike13
import Derived.Test.YtfiiopchfmcjdaaMExactAlike14
import Derived.Test.YtfiiopchfmcjdaaMExactAlike15
import Derived.Test.YtfiiopchfmcjdaaMExactAlike16
import Derived.Test.YtfiiopchfmcjdaaMExactAlike17
import Derived.Test.YtfiiopchfmcjdaaMExactAlike18
import Derived.Test.YtfiiopchfmcjdaaMExactAlike19
import Derived.Test.YtfiiopchfmcjdaaMExactAlike20
import Derived.Test.YtfiiopchfmcjdaaMExactAlike21
import Derived.Test.YtfiiopchfmcjdaaMExactAlike22
import Derived.Test.YtfiiopchfmcjdaaMExactAlike23
/- The walk of the law FnExactAlike. -/
namespace Go.Proofs.Ytfiiopchfmcjdaa
open Go.RowKit
theorem nd_clean {w : World} {B m : Nat} {n : Nd} {h : Hd} (hn : NdAt w (From B) m n h) (hc : CleanFrom B w) : NdAt w (Clean w) m n h := hn.map' (fun k hk hs => hc k hs hk) (fun p n h _ hc => hc)
set_option maxHeartbeats 8000000 in
set_option maxRecDepth 100000 in
theorem walkExactAlike (w : World) (m : Nat) (n : Nd) (h : Hd) (hn : NdAt w Any m n h) (m' : Nat) (n' : Nd) (h' : Hd) (hn' : NdAt w Any m' n' h') :
    Calls Try.prog 5 #[.agg #[.int .i64 n.kind, .string n.data, .slice h.A n.ptrs.length h.a, .int .i64 n.size, .int .i64 n.count, .slice h.B n.items.length h.b], .agg #[.int .i64 n'.kind, .string n'.data, .slice h'.A n'.ptrs.length h'.a, .int .i64 n'.size, .int .i64 n'.count, .slice h'.B n'.items.length h'.b]] w fun e w' => e = .returned (.bool true) ∧ Below w.heap.size w w' := by
  obtain ⟨b, hb⟩ : ∃ b : Bool, (b = true ↔ (nodeOk n = true ∧ nodeOk n' = true ∧ canN n = canN n')) := by
    by_cases e : nodeOk n = true ∧ nodeOk n' = true ∧ canN n = canN n'
    · exact ⟨true, iff_true_of e⟩
    · exact ⟨false, iff_false_of e⟩
  have HQ := Lib.hid hb
  have hb0 : Below w.heap.size w ((w.alloc (.cells #[.int .i64 n.kind, .string n.data, .slice h.A n.ptrs.length h.a, .int .i64 n.size, .int .i64 n.count, .slice h.B n.items.length h.b] 35)).alloc (.cells #[.int .i64 n'.kind, .string n'.data, .slice h'.A n'.ptrs.length h'.a, .int .i64 n'.size, .int .i64 n'.count, .slice h'.B n'.items.length h'.b] 35)) := ((Below.refl _ _).alloc (Nat.le_refl _) _).alloc (by simp) _
  have HB0 := Lib.hid hb0
  have HR : Hid (((w.alloc (.cells #[.int .i64 n.kind, .string n.data, .slice h.A n.ptrs.length h.a, .int .i64 n.size, .int .i64 n.count, .slice h.B n.items.length h.b] 35)).alloc (.cells #[.int .i64 n'.kind, .string n'.data, .slice h'.A n'.ptrs.length h'.a, .int .i64 n'.size, .int .i64 n'.count, .slice h'.B n'.items.length h'.b] 35)).heap[w.heap.size]? = some (.cells #[.int .i64 n.kind, .string n.data, .slice h.A n.ptrs.length h.a, .int .i64 n.size, .int .i64 n.count, .slice h.B n.items.length h.b] 35 (0, 0))) := Lib.hid ((Below.heap_alloc _ _ _ (by simp)).trans (heap_alloc_new w _))
  have HS : Hid (((w.alloc (.cells #[.int .i64 n.kind, .string n.data, .slice h.A n.ptrs.length h.a, .int .i64 n.size, .int .i64 n.count, .slice h.B n.items.length h.b] 35)).alloc (.cells #[.int .i64 n'.kind, .string n'.data, .slice h'.A n'.ptrs.length h'.a, .int .i64 n'.size, .int .i64 n'.count, .slice h'.B n'.items.length h'.b] 35)).heap[w.heap.size + 1]? = some (.cells #[.int .i64 n'.kind, .string n'.data, .slice h'.A n'.ptrs.length h'.a, .int .i64 n'.size, .int .i64 n'.count, .slice h'.B n'.items.length h'.b] 35 (0, 0))) := Lib.hid (by have := heap_alloc_new (w.alloc (.cells #[.int .i64 n.kind, .string n.data, .slice h.A n.ptrs.length h.a, .int .i64 n.size, .int .i64 n.count, .slice h.B n.items.length h.b] 35)) (.cells #[.int .i64 n'.kind, .string n'.data, .slice h'.A n'.ptrs.length h'.a, .int .i64 n'.size, .int .i64 n'.count, .slice h'.B n'.items.length h'.b] 35); rwa [show (w.alloc (.cells #[.int .i64 n.kind, .string n.data, .slice h.A n.ptrs.length h.a, .int .i64 n.size, .int .i64 n.count, .slice h.B n.items.length h.b] 35)).heap.size = w.heap.size + 1 by simp] at this)
  have HSZ := Lib.hid (szN_any m n h ((w.alloc (.cells #[.int .i64 n.kind, .string n.data, .slice h.A n.ptrs.length h.a, .int .i64 n.size, .int .i64 n.count, .slice h.B n.items.length h.b] 35)).alloc (.cells #[.int .i64 n'.kind, .string n'.data, .slice h'.A n'.ptrs.length h'.a, .int .i64 n'.size, .int .i64 n'.count, .slice h'.B n'.items.length h'.b] 35)) 1048576 Any (hn.below hb0) (by decide) (by decide))
  by_cases hbig : (1048576 : Int) < (totN m n : Nat)
  · rw [szR_neg hbig] at HSZ
    clear hn hbig hb0 hb
    go_enter Try.func5, Try.ntmps5
    go_wp2_with fail
    refine HSZ.out.mono ?_
    rintro e w1 ⟨rfl, hb1⟩
    have HB1 := Lib.hid (HB0.out.trans (hb1.mono HB0.out.size))
    clear hb1
    go_wp2
    go_ret
    exact ⟨rfl, HB1.out⟩
  have ht : totN m n ≤ 2000000 := by omega
  rw [szR_pos (by omega)] at HSZ
  have hl0 : 0 ≤ (1048576 : Int) - (totN m n : Nat) := by omega
  have hl1 : (1048576 : Int) - (totN m n : Nat) ≤ 2000000 := by omega
  generalize (1048576 : Int) - (totN m n : Nat) = lf at *
  have HZ2 : Hid (∀ W : World, Below w.heap.size w W → Calls Try.prog 16 #[.agg #[.int .i64 n'.kind, .string n'.data, .slice h'.A n'.ptrs.length h'.a, .int .i64 n'.size, .int .i64 n'.count, .slice h'.B n'.items.length h'.b], .int .i64 lf] W fun e w' => e = .returned (.int .i64 (szR lf (totN m' n'))) ∧ Below W.heap.size W w') := Lib.hid fun W hW => szN_any m' n' h' W lf Any (hn'.below hW) hl0 hl1
  have HTA : Hid (∀ W : World, Below w.heap.size w W → Calls Try.prog 18 #[.agg #[.int .i64 n.kind, .string n.data, .slice h.A n.ptrs.length h.a, .int .i64 n.size, .int .i64 n.count, .slice h.B n.items.length h.b]] W (NewNC m n W)) := Lib.hid fun W hW => toNC_any m n h W Any (hn.below hW) ht
  by_cases hbig2 : lf < (totN m' n' : Nat)
  · rw [szR_neg hbig2] at HZ2
    clear hn hn' hbig hbig2 hb0 hb hl1
    go_enter Try.func5, Try.ntmps5
    go_wp2_with fail
    refine HSZ.out.mono ?_
    rintro e w1 ⟨rfl, hb1⟩
    have HB1 := Lib.hid (HB0.out.trans (hb1.mono HB0.out.size))
    have hs1 := (hb1.block _ (row_lt HS.out)).trans HS.out
    obtain ⟨b0, b1, b2, b3, b4, b5⟩ := cells6 hs1
    clear hb1 hs1
    go_wp2_with fail
    refine (HZ2.out _ HB1.out).mono ?_
    rintro e w2 ⟨rfl, hb2⟩
    have HB2 := Lib.hid (HB1.out.trans (hb2.mono HB1.out.size))
    clear hb2 b0 b1 b2 b3 b4 b5
    go_wp2
    go_ret
    exact ⟨rfl, HB2.out⟩
  have ht2 : totN m' n' ≤ 2000000 := by omega
  rw [szR_pos (by omega)] at HZ2
  have hl3 : 0 ≤ lf - (totN m' n' : Nat) := by omega
  generalize lf - (totN m' n' : Nat) = lf2 at *
  have HTB : Hid (∀ W : World, Below w.heap.size w W → Calls Try.prog 18 #[.agg #[.int .i64 n'.kind, .string n'.data, .slice h'.A n'.ptrs.length h'.a, .int .i64 n'.size, .int .i64 n'.count, .slice h'.B n'.items.length h'.b]] W (NewNC m' n' W)) := Lib.hid fun W hW => toNC_any m' n' h' W Any (hn'.below hW) ht2
  have HT := Lib.hid (And.intro ht ht2)
  have HEA : Hid (∀ (x y : Hd) (W : World) (S S' : Nat → Prop), NdAt W S m n x → NdAt W S' m n y → Calls Try.prog 19 #[.agg #[.int .i64 n.kind, .string n.data, .slice x.A n.ptrs.length x.a, .int .i64 n.size, .int .i64 n.count, .slice x.B n.items.length x.b], .agg #[.int .i64 n.kind, .string n.data, .slice y.A n.ptrs.length y.a, .int .i64 n.size, .int .i64 n.count, .slice y.B n.items.length y.b]] W fun e w' => e = .returned (.bool true) ∧ Below W.heap.size W w') := Lib.hid fun x y W S S' p q => eqN_any m n x y W S S' p q ht
  have HEB : Hid (∀ (x y : Hd) (W : World) (S S' : Nat → Prop), NdAt W S m' n' x → NdAt W S' m' n' y → Calls Try.prog 19 #[.agg #[.int .i64 n'.kind, .string n'.data, .slice x.A n'.ptrs.length x.a, .int .i64 n'.size, .int .i64 n'.count, .slice x.B n'.items.length x.b], .agg #[.int .i64 n'.kind, .string n'.data, .slice y.A n'.ptrs.length y.a, .int .i64 n'.size, .int .i64 n'.count, .slice y.B n'.items.length y.b]] W fun e w' => e = .returned (.bool true) ∧ Below W.heap.size W w') := Lib.hid fun x y W S S' p q => eqN_any m' n' x y W S S' p q ht2
  clear hn hn' hbig hbig2 hb0 hb hl1 ht ht2
  go_enter Try.func5, Try.ntmps5
  go_wp2_with fail
  refine HSZ.out.mono ?_
  rintro e w1 ⟨rfl, hb1⟩
  have HB1 := Lib.hid (HB0.out.trans (hb1.mono HB0.out.size))
  have HR1 := Lib.hid ((hb1.block _ (row_lt HR.out)).trans HR.out)
  have HS1 := Lib.hid ((hb1.block _ (row_lt HS.out)).trans HS.out)
  obtain ⟨b0, b1, b2, b3, b4, b5⟩ := cells6 HS1.out
  clear hb1
  go_wp2_with fail
  refine (HZ2.out _ HB1.out).mono ?_
  rintro e w2 ⟨rfl, hb2⟩
  have HB2 := Lib.hid (HB1.out.trans (hb2.mono HB1.out.size))
  have HR2 := Lib.hid ((hb2.block _ (row_lt HR1.out)).trans HR1.out)
  have HS2 := Lib.hid ((hb2.block _ (row_lt HS1.out)).trans HS1.out)
  clear hb2 b0 b1 b2 b3 b4 b5
  obtain ⟨a0, a1, a2, a3, a4, a5⟩ := cells6 HR2.out
  obtain ⟨b0, b1, b2, b3, b4, b5⟩ := cells6 HS2.out
  go_wp2_with fail
  go_region_with (first | (go_at_call 18; first | ((with_reducible refine (HTA.out _ (by exact HB2.out.drew)).mono ?_); rintro e w4 ⟨h4, rfl, hn4, hb4, hc4⟩; have HB4 := Lib.hid (HB2.out.drew.trans (hb4.mono HB2.out.size)); have HR4 := Lib.hid ((hb4.block _ (row_lt HR2.out)).trans HR2.out); have HS4 := Lib.hid ((hb4.block _ (row_lt HS2.out)).trans HS2.out); obtain ⟨e0, e1, e2, e3, e4, e5⟩ := cells6 HS4.out; have HN4 := Lib.hid hn4; clear hb4 hn4 hc4) | ((with_reducible refine (HTB.out _ (by exact HB4.out)).mono ?_); rintro e w5 ⟨h5, rfl, hn5, hb5, hc5⟩; have HB5 := Lib.hid (HB4.out.trans (hb5.mono HB4.out.size)); have HR5 := Lib.hid ((hb5.block _ (row_lt HR4.out)).trans HR4.out); have HS5 := Lib.hid ((hb5.block _ (row_lt HS4.out)).trans HS4.out); have HN5 := Lib.hid (HN4.out.below hb5); have HM5 := Lib.hid hn5; clear hb5 hn5 hc5)) | (go_at_call 17; (with_reducible refine (specAlike_a m m' n n' h4 h5 _ _ _ b HN5.out HM5.out HT.out.1 HT.out.2 HQ.out).mono ?_); rintro e w6 ⟨rfl, hb6⟩))
  all_goals
    have HB6 := Lib.hid (HB5.out.trans (hb6.mono HB5.out.size))
    have HR6 := Lib.hid ((hb6.block _ (row_lt HR5.out)).trans HR5.out)
    have HS6 := Lib.hid ((hb6.block _ (row_lt HS5.out)).trans HS5.out)
    clear hb6 a0 a1 a2 a3 a4 a5 b0 b1 b2 b3 b4 b5 e0 e1 e2 e3 e4 e5 HN5 HM5 HN4
    obtain ⟨a0, a1, a2, a3, a4, a5⟩ := cells6 HR6.out
    go_wp2_with fail
    refine (HTA.out _ HB6.out).mono ?_
    rintro e w7 ⟨h7, rfl, hn7, hb7, hc7⟩
    have hbx := (Below.refl w7.heap.size w7).alloc (Nat.le_refl _) (.cells #[.int .i64 n.kind, .string n.data, .slice h7.A n.ptrs.length h7.a, .int .i64 n.size, .int .i64 n.count, .slice h7.B n.items.length h7.b] nodeT)
    have HB7 := Lib.hid ((HB6.out.trans (hb7.mono HB6.out.size)).trans (hbx.mono (HB6.out.trans (hb7.mono HB6.out.size)).size))
    have HS7 := Lib.hid (((hbx.block _ (by have := hb7.size; have := row_lt HS6.out; omega))).trans ((hb7.block _ (row_lt HS6.out)).trans HS6.out))
    have HR7 := Lib.hid (((hbx.block _ (by have := hb7.size; have := row_lt HR6.out; omega))).trans ((hb7.block _ (row_lt HR6.out)).trans HR6.out))
    have HX7 := Lib.hid (heap_alloc_new w7 (.cells #[.int .i64 n.kind, .string n.data, .slice h7.A n.ptrs.length h7.a, .int .i64 n.size, .int .i64 n.count, .slice h7.B n.items.length h7.b] nodeT))
    have HN7 := Lib.hid (((nd_clean hn7 hc7).below hbx).weak (S' := Clean (w7.alloc (.cells #[.int .i64 n.kind, .string n.data, .slice h7.A n.ptrs.length h7.a, .int .i64 n.size, .int .i64 n.count, .slice h7.B n.items.length h7.b] nodeT))) (fun k hk => clean_below hk hbx))
    clear a0 a1 a2 a3 a4 a5 hb7 hn7 hc7 hbx
    obtain ⟨b0, b1, b2, b3, b4, b5⟩ := cells6 HS7.out
    go_wp2_with fail
    generalize w7.alloc (.cells #[.int .i64 n.kind, .string n.data, .slice h7.A n.ptrs.length h7.a, .int .i64 n.size, .int .i64 n.count, .slice h7.B n.items.length h7.b] nodeT) = W7 at *
    refine (HTB.out _ HB7.out).mono ?_
    rintro e w8 ⟨h8, rfl, hn8, hb8, hc8⟩
    have hbx := (Below.refl w8.heap.size w8).alloc (Nat.le_refl _) (.cells #[.int .i64 n'.kind, .string n'.data, .slice h8.A n'.ptrs.length h8.a, .int .i64 n'.size, .int .i64 n'.count, .slice h8.B n'.items.length h8.b] nodeT)
    have hbs := HB7.out.trans (hb8.mono HB7.out.size)
    have HB8 := Lib.hid (hbs.trans (hbx.mono hbs.size))
    have HS8 := Lib.hid ((hbx.block _ (by have := hb8.size; have := row_lt HS7.out; omega)).trans ((hb8.block _ (row_lt HS7.out)).trans HS7.out))
    have HR8 := Lib.hid ((hbx.block _ (by have := hb8.size; have := row_lt HR7.out; omega)).trans ((hb8.block _ (row_lt HR7.out)).trans HR7.out))
    have HX8 := Lib.hid ((hbx.block _ (by have := hb8.size; have := row_lt HX7.out; omega)).trans ((hb8.block _ (row_lt HX7.out)).trans HX7.out))
    have HY8 := Lib.hid (heap_alloc_new w8 (.cells #[.int .i64 n'.kind, .string n'.data, .slice h8.A n'.ptrs.length h8.a, .int .i64 n'.size, .int .i64 n'.count, .slice h8.B n'.items.length h8.b] nodeT))
    have HN8 := Lib.hid (((HN7.out.below hb8).below hbx).weak (S' := Clean (w8.alloc (.cells #[.int .i64 n'.kind, .string n'.data, .slice h8.A n'.ptrs.length h8.a, .int .i64 n'.size, .int .i64 n'.count, .slice h8.B n'.items.length h8.b] nodeT))) (fun k hk => clean_below (clean_below hk hb8) hbx))
    have HM8 := Lib.hid (((nd_clean hn8 hc8).below hbx).weak (S' := Clean (w8.alloc (.cells #[.int .i64 n'.kind, .string n'.data, .slice h8.A n'.ptrs.length h8.a, .int .i64 n'.size, .int .i64 n'.count, .slice h8.B n'.items.length h8.b] nodeT))) (fun k hk => clean_below hk hbx))
    clear b0 b1 b2 b3 b4 b5 hb8 hn8 hc8 hbx hbs
    obtain ⟨a0, a1, a2, a3, a4, a5⟩ := cells6 HX8.out
    obtain ⟨b0, b1, b2, b3, b4, b5⟩ := cells6 HY8.out
    go_wp2_with fail
    clear a0 a1 a2 a3 a4 a5 b0 b1 b2 b3 b4 b5
    generalize w8.alloc (.cells #[.int .i64 n'.kind, .string n'.data, .slice h8.A n'.ptrs.length h8.a, .int .i64 n'.size, .int .i64 n'.count, .slice h8.B n'.items.length h8.b] nodeT) = W8 at *
    refine (implAlike_a m m' n n' h7 h8 W8 _ _ b HN8.out HM8.out HT.out.1 HT.out.2 HQ.out).mono ?_
    rintro e w9 ⟨rfl, hb9⟩
    have HB9 := Lib.hid (HB8.out.trans (hb9.mono HB8.out.size))
    have HR9 := Lib.hid ((hb9.block _ (row_lt HR8.out)).trans HR8.out)
    have HS9 := Lib.hid ((hb9.block _ (row_lt HS8.out)).trans HS8.out)
    have HX9 := Lib.hid ((hb9.block _ (row_lt HX8.out)).trans HX8.out)
    have HY9 := Lib.hid ((hb9.block _ (row_lt HY8.out)).trans HY8.out)
    have HN9 := Lib.hid (HN8.out.below hb9)
    have HM9 := Lib.hid (HM8.out.below hb9)
    have HN9f : Hid (∀ V : World, Below w9.drew.heap.size w9.drew V → NdAt V (Clean W8) m n h7) := Lib.hid fun V hV => HN9.out.below ((Below.mk rfl rfl rfl (Nat.le_refl _) (fun _ _ => rfl) : Below w9.heap.size w9 w9.drew).trans hV)
    clear hb9
    obtain ⟨a0, a1, a2, a3, a4, a5⟩ := cells6 HR9.out
    obtain ⟨x0, x1, x2, x3, x4, x5⟩ := cells6 HX9.out
    go_wp2_with fail
    go_region_with (first | (go_at_call 18; (with_reducible refine (HTA.out _ (by exact HB9.out.drew)).mono ?_); rintro e wa ⟨ha, rfl, hna, hba, hca⟩; have hxa := (hba.block _ (row_lt HX9.out)).trans HX9.out; obtain ⟨f0, f1, f2, f3, f4, f5⟩ := cells6 hxa) | (go_at_call 19; (with_reducible refine (HEA.out h7 ha _ _ _ (HN9f.out _ hba) hna).mono ?_); rintro e wb ⟨rfl, hbb⟩))
    all_goals
      have hbab : Below w9.heap.size w9 wb := ((Below.mk rfl rfl rfl (Nat.le_refl _) (fun _ _ => rfl) : Below w9.heap.size w9 w9.drew).trans hba).trans (hbb.mono hba.size)
      have HBb := Lib.hid (HB9.out.trans (hbab.mono HB9.out.size))
      have HSb := Lib.hid ((hbab.block _ (row_lt HS9.out)).trans HS9.out)
      have HYb := Lib.hid ((hbab.block _ (row_lt HY9.out)).trans HY9.out)
      have HMb := Lib.hid (HM9.out.below hbab)
      have HMbf : Hid (∀ V : World, Below wb.drew.heap.size wb.drew V → NdAt V (Clean W8) m' n' h8) := Lib.hid fun V hV => HMb.out.below ((Below.mk rfl rfl rfl (Nat.le_refl _) (fun _ _ => rfl) : Below wb.heap.size wb wb.drew).trans hV)
      clear hba hbb hbab hna hca hxa f0 f1 f2 f3 f4 f5 a0 a1 a2 a3 a4 a5 x0 x1 x2 x3 x4 x5
      obtain ⟨b0, b1, b2, b3, b4, b5⟩ := cells6 HSb.out
      obtain ⟨y0, y1, y2, y3, y4, y5⟩ := cells6 HYb.out
      go_wp2_with fail
      go_region_with (first | (go_at_call 18; (with_reducible refine (HTB.out _ (by exact HBb.out.drew)).mono ?_); rintro e wc ⟨hcc, rfl, hnc, hbc, hcl⟩; have hxc := (hbc.block _ (row_lt HYb.out)).trans HYb.out; obtain ⟨f0, f1, f2, f3, f4, f5⟩ := cells6 hxc) | (go_at_call 19; (with_reducible refine (HEB.out h8 hcc _ _ _ (HMbf.out _ hbc) hnc).mono ?_); rintro e wd ⟨rfl, hbd⟩))
      all_goals
        have HBd := Lib.hid ((HBb.out.drew.trans (hbc.mono HBb.out.drew.size)).trans (hbd.mono (HBb.out.drew.trans (hbc.mono HBb.out.drew.size)).size))
        clear hbc hbd
        go_wp2
        go_ret
        exact ⟨rfl, HBd.out⟩
end Go.Proofs.Ytfiiopchfmcjdaa
