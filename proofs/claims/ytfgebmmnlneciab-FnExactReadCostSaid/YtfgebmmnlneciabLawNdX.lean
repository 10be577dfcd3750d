/- The walks of the exact laws of NodeOk, NodeWords, ReadCost. -/
import Derived.Test.YtfgebmmnlneciabNdSpec
import Derived.Test.YtfgebmmnlneciabNdEq
namespace Go.Proofs.Ytfgebmmnlneciab
open Go.RowKit
set_option maxHeartbeats 4000000 in
set_option maxRecDepth 100000 in
theorem walkExactNodeOk (w : World) (m : Nat) (n : Nd) (h : Hd) (hn : NdAt w Any m n h) :
    Calls Try.prog 3 #[.agg #[.int .i64 n.kind, .string n.data, .slice h.A n.ptrs.length h.a, .int .i64 n.size, .int .i64 n.count, .slice h.B n.items.length h.b]] w fun e w' => e = .returned (.bool true) ∧ Below w.heap.size w w' := by
  have hb0 := (Below.refl w.heap.size w).alloc (Nat.le_refl _) (.cells #[.int .i64 n.kind, .string n.data, .slice h.A n.ptrs.length h.a, .int .i64 n.size, .int .i64 n.count, .slice h.B n.items.length h.b] 24)
  have HR := Lib.hid (heap_alloc_new w (.cells #[.int .i64 n.kind, .string n.data, .slice h.A n.ptrs.length h.a, .int .i64 n.size, .int .i64 n.count, .slice h.B n.items.length h.b] 24))
  have HB0 := Lib.hid hb0
  have hsz : w.heap.size < (w.alloc (.cells #[.int .i64 n.kind, .string n.data, .slice h.A n.ptrs.length h.a, .int .i64 n.size, .int .i64 n.count, .slice h.B n.items.length h.b] 24)).heap.size := by simp
  have HSZ := Lib.hid (szN_any m n h _ 1048576 Any (hn.below hb0) (by decide) (by decide))
  by_cases hbig : (1048576 : Int) < (totN m n : Nat)
  · rw [szR_neg hbig] at HSZ
    clear hn hbig hb0
    go_enter Try.func3, Try.ntmps3
    go_wp2_with fail
    refine HSZ.out.mono ?_
    rintro e w1 ⟨rfl, hb1⟩
    have HB1 := Lib.hid (HB0.out.trans (hb1.mono HB0.out.size))
    clear hb1
    go_wp2
    go_ret
    exact ⟨rfl, HB1.out⟩
  have ht : totN m n ≤ 2000000 := by omega
  rw [szR_pos (by omega)] at HSZ
  have hl0 : 0 ≤ (1048576 : Int) - (totN m n : Nat) := by omega
  generalize (1048576 : Int) - (totN m n : Nat) = lf at *
  have HN := Lib.hid hn
  have HT := Lib.hid ht
  have HTO : Hid (∀ W : World, Below w.heap.size w W → Calls Try.prog 13 #[.agg #[.int .i64 n.kind, .string n.data, .slice h.A n.ptrs.length h.a, .int .i64 n.size, .int .i64 n.count, .slice h.B n.items.length h.b]] W (NewN m n W)) := Lib.hid fun W hb => toN_any m n h W Any (HN.out.below hb) HT.out
  clear hn ht hbig hb0
  go_enter Try.func3, Try.ntmps3
  go_wp2_with fail
  refine HSZ.out.mono ?_
  rintro e w1 ⟨rfl, hb1⟩
  have HB1 := Lib.hid (HB0.out.trans (hb1.mono HB0.out.size))
  have hr1 := (hb1.block _ hsz).trans HR.out
  have HR1 := Lib.hid hr1
  obtain ⟨a0, a1, a2, a3, a4, a5⟩ := cells6 hr1
  clear hb1 hr1
  go_wp2_with fail
  refine (HTO.out _ HB1.out).mono ?_
  rintro e w2 ⟨h2, rfl, hn2, hb2⟩
  have HB2 := Lib.hid (HB1.out.trans (hb2.mono HB1.out.size))
  have hr2 := (hb2.block _ (row_lt HR1.out)).trans HR1.out
  have HR2 := Lib.hid hr2
  clear a0 a1 a2 a3 a4 a5
  obtain ⟨a0, a1, a2, a3, a4, a5⟩ := cells6 hr2
  have HC := Lib.hid (specNodeOk_a m n h2 w2 _ hn2 HT.out)
  clear hn2 hb2 hr2
  go_wp2_with fail
  refine HC.out.mono ?_
  rintro e w3 ⟨rfl, hb3⟩
  have HB3 := Lib.hid (HB2.out.trans (hb3.mono HB2.out.size))
  have hr3 := (hb3.block _ (row_lt HR2.out)).trans HR2.out
  have HR3 := Lib.hid hr3
  clear a0 a1 a2 a3 a4 a5
  obtain ⟨a0, a1, a2, a3, a4, a5⟩ := cells6 hr3
  clear hb3 hr3 HC
  go_wp2_with fail
  refine (HTO.out _ HB3.out).mono ?_
  rintro e w4 ⟨h4, rfl, hn4, hb4⟩
  have HB4 := Lib.hid (HB3.out.trans (hb4.mono HB3.out.size))
  have hr4 := (hb4.block _ (row_lt HR3.out)).trans HR3.out
  have HR4 := Lib.hid hr4
  clear a0 a1 a2 a3 a4 a5
  obtain ⟨a0, a1, a2, a3, a4, a5⟩ := cells6 hr4
  have hbx := (Below.refl w4.heap.size w4).alloc (Nat.le_refl _) (.cells #[.int .i64 n.kind, .string n.data, .slice h4.A n.ptrs.length h4.a, .int .i64 n.size, .int .i64 n.count, .slice h4.B n.items.length h4.b] nodeT)
  have HRX := Lib.hid (heap_alloc_new w4 (.cells #[.int .i64 n.kind, .string n.data, .slice h4.A n.ptrs.length h4.a, .int .i64 n.size, .int .i64 n.count, .slice h4.B n.items.length h4.b] nodeT))
  have HNX := Lib.hid (hn4.below hbx)
  have HBX := Lib.hid (HB4.out.trans (hbx.mono HB4.out.size))
  have HRB := Lib.hid ((hbx.block _ (row_lt HR4.out)).trans HR4.out)
  have HLT := Lib.hid (show w4.heap.size < (w4.alloc (.cells #[.int .i64 n.kind, .string n.data, .slice h4.A n.ptrs.length h4.a, .int .i64 n.size, .int .i64 n.count, .slice h4.B n.items.length h4.b] nodeT)).heap.size by simp)
  have HC := Lib.hid (implNodeOk_a m n h4 _ _ (HNX.out) HT.out)
  clear hn4 hb4 hr4 hbx
  go_wp2_with fail
  clear a0 a1 a2 a3 a4 a5
  generalize w4.alloc (.cells #[.int .i64 n.kind, .string n.data, .slice h4.A n.ptrs.length h4.a, .int .i64 n.size, .int .i64 n.count, .slice h4.B n.items.length h4.b] nodeT) = W4 at *
  refine HC.out.mono ?_
  rintro e w5 ⟨rfl, hb5⟩
  have HB5 := Lib.hid (HBX.out.trans (hb5.mono HBX.out.size))
  have HN5 := Lib.hid (HNX.out.below hb5)
  have hr5 := (hb5.block _ (row_lt HRB.out)).trans HRB.out
  have hx5 := (hb5.block _ HLT.out).trans HRX.out
  have HR5 := Lib.hid hr5
  have HX5 := Lib.hid hx5
  obtain ⟨a0, a1, a2, a3, a4, a5⟩ := cells6 hr5
  obtain ⟨b0, b1, b2, b3, b4, b5⟩ := cells6 hx5
  clear hb5 HC hr5 hx5
  have hsz5 : (w5.drew).heap.size = w5.heap.size := rfl
  go_wp2_with fail
  go_region_with (first | (go_at_call 13; go_must (refine (HTO.out _ (by exact HB5.out.drew)).mono ?_); rintro e w6 ⟨h6, rfl, hn6, hb6⟩; have hx6 := (hb6.block _ (row_lt HX5.out)).trans HX5.out; obtain ⟨f0, f1, f2, f3, f4, f5⟩ := cells6 hx6) | (go_at_call 15; go_must (refine (eqN_any m n h4 h6 _ _ _ (HN5.out.below (by exact (Below.mk rfl rfl rfl (Nat.le_refl _) (fun _ _ => rfl) : Below w5.heap.size w5 w5.drew).trans hb6)) hn6 HT.out).mono ?_); rintro e w7 ⟨rfl, hb7⟩))
  all_goals
    have HB7 := Lib.hid ((HB5.out.drew.trans (hb6.mono HB5.out.drew.size)).trans (hb7.mono (HB5.out.drew.trans (hb6.mono HB5.out.drew.size)).size))
    clear hb6 hb7
    go_wp2
    go_ret
    exact ⟨rfl, HB7.out⟩
set_option maxHeartbeats 4000000 in
set_option maxRecDepth 100000 in
theorem walkExactNodeWords (w : World) (m : Nat) (n : Nd) (h : Hd) (hn : NdAt w Any m n h) :
    Calls Try.prog 5 #[.agg #[.int .i64 n.kind, .string n.data, .slice h.A n.ptrs.length h.a, .int .i64 n.size, .int .i64 n.count, .slice h.B n.items.length h.b]] w fun e w' => e = .returned (.bool true) ∧ Below w.heap.size w w' := by
  have hb0 := (Below.refl w.heap.size w).alloc (Nat.le_refl _) (.cells #[.int .i64 n.kind, .string n.data, .slice h.A n.ptrs.length h.a, .int .i64 n.size, .int .i64 n.count, .slice h.B n.items.length h.b] 24)
  have HR := Lib.hid (heap_alloc_new w (.cells #[.int .i64 n.kind, .string n.data, .slice h.A n.ptrs.length h.a, .int .i64 n.size, .int .i64 n.count, .slice h.B n.items.length h.b] 24))
  have HB0 := Lib.hid hb0
  have hsz : w.heap.size < (w.alloc (.cells #[.int .i64 n.kind, .string n.data, .slice h.A n.ptrs.length h.a, .int .i64 n.size, .int .i64 n.count, .slice h.B n.items.length h.b] 24)).heap.size := by simp
  have HSZ := Lib.hid (szN_any m n h _ 1048576 Any (hn.below hb0) (by decide) (by decide))
  by_cases hbig : (1048576 : Int) < (totN m n : Nat)
  · rw [szR_neg hbig] at HSZ
    clear hn hbig hb0
    go_enter Try.func5, Try.ntmps5
    go_wp2_with fail
    refine HSZ.out.mono ?_
    rintro e w1 ⟨rfl, hb1⟩
    have HB1 := Lib.hid (HB0.out.trans (hb1.mono HB0.out.size))
    clear hb1
    go_wp2
    go_ret
    exact ⟨rfl, HB1.out⟩
  have ht : totN m n ≤ 2000000 := by omega
  rw [szR_pos (by omega)] at HSZ
  have hl0 : 0 ≤ (1048576 : Int) - (totN m n : Nat) := by omega
  generalize (1048576 : Int) - (totN m n : Nat) = lf at *
  have HN := Lib.hid hn
  have HT := Lib.hid ht
  have HTO : Hid (∀ W : World, Below w.heap.size w W → Calls Try.prog 13 #[.agg #[.int .i64 n.kind, .string n.data, .slice h.A n.ptrs.length h.a, .int .i64 n.size, .int .i64 n.count, .slice h.B n.items.length h.b]] W (NewN m n W)) := Lib.hid fun W hb => toN_any m n h W Any (HN.out.below hb) HT.out
  clear hn ht hbig hb0
  go_enter Try.func5, Try.ntmps5
  go_wp2_with fail
  refine HSZ.out.mono ?_
  rintro e w1 ⟨rfl, hb1⟩
  have HB1 := Lib.hid (HB0.out.trans (hb1.mono HB0.out.size))
  have hr1 := (hb1.block _ hsz).trans HR.out
  have HR1 := Lib.hid hr1
  obtain ⟨a0, a1, a2, a3, a4, a5⟩ := cells6 hr1
  clear hb1 hr1
  go_wp2_with fail
  refine (HTO.out _ HB1.out).mono ?_
  rintro e w2 ⟨h2, rfl, hn2, hb2⟩
  have HB2 := Lib.hid (HB1.out.trans (hb2.mono HB1.out.size))
  have hr2 := (hb2.block _ (row_lt HR1.out)).trans HR1.out
  have HR2 := Lib.hid hr2
  clear a0 a1 a2 a3 a4 a5
  obtain ⟨a0, a1, a2, a3, a4, a5⟩ := cells6 hr2
  have HC := Lib.hid (specNodeWords_a m n h2 w2 _ hn2 HT.out)
  clear hn2 hb2 hr2
  go_wp2_with fail
  refine HC.out.mono ?_
  rintro e w3 ⟨rfl, hb3⟩
  have HB3 := Lib.hid (HB2.out.trans (hb3.mono HB2.out.size))
  have hr3 := (hb3.block _ (row_lt HR2.out)).trans HR2.out
  have HR3 := Lib.hid hr3
  clear a0 a1 a2 a3 a4 a5
  obtain ⟨a0, a1, a2, a3, a4, a5⟩ := cells6 hr3
  clear hb3 hr3 HC
  go_wp2_with fail
  refine (HTO.out _ HB3.out).mono ?_
  rintro e w4 ⟨h4, rfl, hn4, hb4⟩
  have HB4 := Lib.hid (HB3.out.trans (hb4.mono HB3.out.size))
  have hr4 := (hb4.block _ (row_lt HR3.out)).trans HR3.out
  have HR4 := Lib.hid hr4
  clear a0 a1 a2 a3 a4 a5
  obtain ⟨a0, a1, a2, a3, a4, a5⟩ := cells6 hr4
  have hbx := (Below.refl w4.heap.size w4).alloc (Nat.le_refl _) (.cells #[.int .i64 n.kind, .string n.data, .slice h4.A n.ptrs.length h4.a, .int .i64 n.size, .int .i64 n.count, .slice h4.B n.items.length h4.b] nodeT)
  have HRX := Lib.hid (heap_alloc_new w4 (.cells #[.int .i64 n.kind, .string n.data, .slice h4.A n.ptrs.length h4.a, .int .i64 n.size, .int .i64 n.count, .slice h4.B n.items.length h4.b] nodeT))
  have HNX := Lib.hid (hn4.below hbx)
  have HBX := Lib.hid (HB4.out.trans (hbx.mono HB4.out.size))
  have HRB := Lib.hid ((hbx.block _ (row_lt HR4.out)).trans HR4.out)
  have HLT := Lib.hid (show w4.heap.size < (w4.alloc (.cells #[.int .i64 n.kind, .string n.data, .slice h4.A n.ptrs.length h4.a, .int .i64 n.size, .int .i64 n.count, .slice h4.B n.items.length h4.b] nodeT)).heap.size by simp)
  have HC := Lib.hid (implNodeWords_a m n h4 _ _ (HNX.out) HT.out)
  clear hn4 hb4 hr4 hbx
  go_wp2_with fail
  clear a0 a1 a2 a3 a4 a5
  generalize w4.alloc (.cells #[.int .i64 n.kind, .string n.data, .slice h4.A n.ptrs.length h4.a, .int .i64 n.size, .int .i64 n.count, .slice h4.B n.items.length h4.b] nodeT) = W4 at *
  refine HC.out.mono ?_
  rintro e w5 ⟨rfl, hb5⟩
  have HB5 := Lib.hid (HBX.out.trans (hb5.mono HBX.out.size))
  have HN5 := Lib.hid (HNX.out.below hb5)
  have hr5 := (hb5.block _ (row_lt HRB.out)).trans HRB.out
  have hx5 := (hb5.block _ HLT.out).trans HRX.out
  have HR5 := Lib.hid hr5
  have HX5 := Lib.hid hx5
  obtain ⟨a0, a1, a2, a3, a4, a5⟩ := cells6 hr5
  obtain ⟨b0, b1, b2, b3, b4, b5⟩ := cells6 hx5
  clear hb5 HC hr5 hx5
  have hsz5 : (w5.drew).heap.size = w5.heap.size := rfl
  go_wp2_with fail
  go_region_with (first | (go_at_call 13; go_must (refine (HTO.out _ (by exact HB5.out.drew)).mono ?_); rintro e w6 ⟨h6, rfl, hn6, hb6⟩; have hx6 := (hb6.block _ (row_lt HX5.out)).trans HX5.out; obtain ⟨f0, f1, f2, f3, f4, f5⟩ := cells6 hx6) | (go_at_call 15; go_must (refine (eqN_any m n h4 h6 _ _ _ (HN5.out.below (by exact (Below.mk rfl rfl rfl (Nat.le_refl _) (fun _ _ => rfl) : Below w5.heap.size w5 w5.drew).trans hb6)) hn6 HT.out).mono ?_); rintro e w7 ⟨rfl, hb7⟩))
  all_goals
    have HB7 := Lib.hid ((HB5.out.drew.trans (hb6.mono HB5.out.drew.size)).trans (hb7.mono (HB5.out.drew.trans (hb6.mono HB5.out.drew.size)).size))
    clear hb6 hb7
    go_wp2
    go_ret
    exact ⟨rfl, HB7.out⟩
set_option maxHeartbeats 4000000 in
set_option maxRecDepth 100000 in
theorem walkExactReadCost (w : World) (m : Nat) (n : Nd) (h : Hd) (hn : NdAt w Any m n h) :
    Calls Try.prog 10 #[.agg #[.int .i64 n.kind, .string n.data, .slice h.A n.ptrs.length h.a, .int .i64 n.size, .int .i64 n.count, .slice h.B n.items.length h.b]] w fun e w' => e = .returned (.bool true) ∧ Below w.heap.size w w' := by
  have hb0 := (Below.refl w.heap.size w).alloc (Nat.le_refl _) (.cells #[.int .i64 n.kind, .string n.data, .slice h.A n.ptrs.length h.a, .int .i64 n.size, .int .i64 n.count, .slice h.B n.items.length h.b] 24)
  have HR := Lib.hid (heap_alloc_new w (.cells #[.int .i64 n.kind, .string n.data, .slice h.A n.ptrs.length h.a, .int .i64 n.size, .int .i64 n.count, .slice h.B n.items.length h.b] 24))
  have HB0 := Lib.hid hb0
  have hsz : w.heap.size < (w.alloc (.cells #[.int .i64 n.kind, .string n.data, .slice h.A n.ptrs.length h.a, .int .i64 n.size, .int .i64 n.count, .slice h.B n.items.length h.b] 24)).heap.size := by simp
  have HSZ := Lib.hid (szN_any m n h _ 1048576 Any (hn.below hb0) (by decide) (by decide))
  by_cases hbig : (1048576 : Int) < (totN m n : Nat)
  · rw [szR_neg hbig] at HSZ
    clear hn hbig hb0
    go_enter Try.func10, Try.ntmps10
    go_wp2_with fail
    refine HSZ.out.mono ?_
    rintro e w1 ⟨rfl, hb1⟩
    have HB1 := Lib.hid (HB0.out.trans (hb1.mono HB0.out.size))
    clear hb1
    go_wp2
    go_ret
    exact ⟨rfl, HB1.out⟩
  have ht : totN m n ≤ 2000000 := by omega
  rw [szR_pos (by omega)] at HSZ
  have hl0 : 0 ≤ (1048576 : Int) - (totN m n : Nat) := by omega
  generalize (1048576 : Int) - (totN m n : Nat) = lf at *
  have HN := Lib.hid hn
  have HT := Lib.hid ht
  have HTO : Hid (∀ W : World, Below w.heap.size w W → Calls Try.prog 13 #[.agg #[.int .i64 n.kind, .string n.data, .slice h.A n.ptrs.length h.a, .int .i64 n.size, .int .i64 n.count, .slice h.B n.items.length h.b]] W (NewN m n W)) := Lib.hid fun W hb => toN_any m n h W Any (HN.out.below hb) HT.out
  clear hn ht hbig hb0
  go_enter Try.func10, Try.ntmps10
  go_wp2_with fail
  refine HSZ.out.mono ?_
  rintro e w1 ⟨rfl, hb1⟩
  have HB1 := Lib.hid (HB0.out.trans (hb1.mono HB0.out.size))
  have hr1 := (hb1.block _ hsz).trans HR.out
  have HR1 := Lib.hid hr1
  obtain ⟨a0, a1, a2, a3, a4, a5⟩ := cells6 hr1
  clear hb1 hr1
  go_wp2_with fail
  refine (HTO.out _ HB1.out).mono ?_
  rintro e w2 ⟨h2, rfl, hn2, hb2⟩
  have HB2 := Lib.hid (HB1.out.trans (hb2.mono HB1.out.size))
  have hr2 := (hb2.block _ (row_lt HR1.out)).trans HR1.out
  have HR2 := Lib.hid hr2
  clear a0 a1 a2 a3 a4 a5
  obtain ⟨a0, a1, a2, a3, a4, a5⟩ := cells6 hr2
  have HC := Lib.hid (specReadCost_a m n h2 w2 _ hn2 HT.out)
  clear hn2 hb2 hr2
  go_wp2_with fail
  refine HC.out.mono ?_
  rintro e w3 ⟨rfl, hb3⟩
  have HB3 := Lib.hid (HB2.out.trans (hb3.mono HB2.out.size))
  have hr3 := (hb3.block _ (row_lt HR2.out)).trans HR2.out
  have HR3 := Lib.hid hr3
  clear a0 a1 a2 a3 a4 a5
  obtain ⟨a0, a1, a2, a3, a4, a5⟩ := cells6 hr3
  clear hb3 hr3 HC
  go_wp2_with fail
  refine (HTO.out _ HB3.out).mono ?_
  rintro e w4 ⟨h4, rfl, hn4, hb4⟩
  have HB4 := Lib.hid (HB3.out.trans (hb4.mono HB3.out.size))
  have hr4 := (hb4.block _ (row_lt HR3.out)).trans HR3.out
  have HR4 := Lib.hid hr4
  clear a0 a1 a2 a3 a4 a5
  obtain ⟨a0, a1, a2, a3, a4, a5⟩ := cells6 hr4
  have hbx := (Below.refl w4.heap.size w4).alloc (Nat.le_refl _) (.cells #[.int .i64 n.kind, .string n.data, .slice h4.A n.ptrs.length h4.a, .int .i64 n.size, .int .i64 n.count, .slice h4.B n.items.length h4.b] nodeT)
  have HRX := Lib.hid (heap_alloc_new w4 (.cells #[.int .i64 n.kind, .string n.data, .slice h4.A n.ptrs.length h4.a, .int .i64 n.size, .int .i64 n.count, .slice h4.B n.items.length h4.b] nodeT))
  have HNX := Lib.hid (hn4.below hbx)
  have HBX := Lib.hid (HB4.out.trans (hbx.mono HB4.out.size))
  have HRB := Lib.hid ((hbx.block _ (row_lt HR4.out)).trans HR4.out)
  have HLT := Lib.hid (show w4.heap.size < (w4.alloc (.cells #[.int .i64 n.kind, .string n.data, .slice h4.A n.ptrs.length h4.a, .int .i64 n.size, .int .i64 n.count, .slice h4.B n.items.length h4.b] nodeT)).heap.size by simp)
  have HC := Lib.hid (implReadCost_a m n h4 _ _ (HNX.out) HT.out)
  clear hn4 hb4 hr4 hbx
  go_wp2_with fail
  clear a0 a1 a2 a3 a4 a5
  generalize w4.alloc (.cells #[.int .i64 n.kind, .string n.data, .slice h4.A n.ptrs.length h4.a, .int .i64 n.size, .int .i64 n.count, .slice h4.B n.items.length h4.b] nodeT) = W4 at *
  refine HC.out.mono ?_
  rintro e w5 ⟨rfl, hb5⟩
  have HB5 := Lib.hid (HBX.out.trans (hb5.mono HBX.out.size))
  have HN5 := Lib.hid (HNX.out.below hb5)
  have hr5 := (hb5.block _ (row_lt HRB.out)).trans HRB.out
  have hx5 := (hb5.block _ HLT.out).trans HRX.out
  have HR5 := Lib.hid hr5
  have HX5 := Lib.hid hx5
  obtain ⟨a0, a1, a2, a3, a4, a5⟩ := cells6 hr5
  obtain ⟨b0, b1, b2, b3, b4, b5⟩ := cells6 hx5
  clear hb5 HC hr5 hx5
  have hsz5 : (w5.drew).heap.size = w5.heap.size := rfl
  go_wp2_with fail
  go_region_with (first | (go_at_call 13; go_must (refine (HTO.out _ (by exact HB5.out.drew)).mono ?_); rintro e w6 ⟨h6, rfl, hn6, hb6⟩; have hx6 := (hb6.block _ (row_lt HX5.out)).trans HX5.out; obtain ⟨f0, f1, f2, f3, f4, f5⟩ := cells6 hx6) | (go_at_call 15; go_must (refine (eqN_any m n h4 h6 _ _ _ (HN5.out.below (by exact (Below.mk rfl rfl rfl (Nat.le_refl _) (fun _ _ => rfl) : Below w5.heap.size w5 w5.drew).trans hb6)) hn6 HT.out).mono ?_); rintro e w7 ⟨rfl, hb7⟩))
  all_goals
    have HB7 := Lib.hid ((HB5.out.drew.trans (hb6.mono HB5.out.drew.size)).trans (hb7.mono (HB5.out.drew.trans (hb6.mono HB5.out.drew.size)).size))
    clear hb6 hb7
    go_wp2
    go_ret
    exact ⟨rfl, HB7.out⟩
end Go.Proofs.Ytfgebmmnlneciab
