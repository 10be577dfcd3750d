/- The walk of the law FnExactTextNode. -/
import Derived.Test.YtabipkpgmlmkcaaTextI
namespace Go.Proofs.Ytabipkpgmlmkcaa
open Go.RowKit
theorem calls6 {P : Program} {f : FuncId} {args : Array Value} {w : World} {v : Value} (h : Calls P f args w fun e w' => e = .returned v ∧ Below w.heap.size w w') : Calls P f args w fun e w' => e = .returned v ∧ Below w.heap.size w w' := h
set_option maxHeartbeats 4000000 in
set_option maxRecDepth 100000 in
theorem walkExactTextNode (t : ByteArray) (htm : t.size ≤ maxLen) (w : World) :
    Calls Try.prog 7 #[.string t] w fun e w' => e = .returned (.bool true) ∧ Below w.heap.size w w' := by
  unfold maxLen at htm
  by_cases hbig : 1048576 < t.size
  · go_enter Try.func7, Try.ntmps7
    go_wp2
    go_ret
    exact ⟨rfl, Below.refl _ _⟩
  have HS : Hid (∀ W : World, Calls Try.prog 23 #[.string t] W fun e w' => e = .returned (ndV (textN t) noHd) ∧ Below W.heap.size W w') := Lib.hid fun W => specTextNode_a t W (by omega)
  have HI : Hid (∀ W : World, Calls Try.prog 24 #[.string t] W fun e w' => e = .returned (ndV (textN t) noHd) ∧ Below W.heap.size W w') := Lib.hid fun W => implTextNode_a t W (by omega)
  have HE : Hid (∀ W : World, Calls Try.prog 22 #[ndV (textN t) noHd, ndV (textN t) noHd] W fun e w' => e = .returned (.bool true) ∧ Below W.heap.size W w') := Lib.hid fun W => eqN_any 0 (textN t) noHd noHd W Any Any (textN_at _ _ _ _) (textN_at _ _ _ _) (Nat.le_trans (textN_tot 0 t) (by decide))
  have HM : Hid (∀ W : World, Calls Try.prog 25 #[ndV (textN t) noHd, .int .i64 1] W fun e w' => e = .returned (.int .i64 1) ∧ Below W.heap.size W w') := Lib.hid fun W => markN_nil (textN t) noHd 1 W (by rw [(textN_lists t).1]; rfl) (by rw [(textN_lists t).2]; rfl) (by decide) (by decide)
  have HH : Hid (∀ W : World, Calls Try.prog 26 #[ndV (textN t) noHd, .int .i64 1] W fun e w' => e = .returned (.int .i64 1) ∧ Below W.heap.size W w') := Lib.hid fun W => heldN_nil (textN t) noHd 1 W (by rw [(textN_lists t).1]; rfl) (by rw [(textN_lists t).2]; rfl) (by decide) (by decide)
  unfold ndV at HS HI HE HM HH
  generalize textN t = n at *
  go_enter Try.func7, Try.ntmps7
  go_wp2_with fail
  refine (HS.out _).mono ?_
  rintro e w1 ⟨rfl, hb1⟩
  have hr1 := heap_alloc_new w1 (.cells #[.int .i64 n.kind, .string n.data, .slice none n.ptrs.length 0, .int .i64 n.size, .int .i64 n.count, .slice none n.items.length 0] nodeT)
  have HR1 := Lib.hid hr1
  have HB1 := Lib.hid (hb1.alloc hb1.size (.cells #[.int .i64 n.kind, .string n.data, .slice none n.ptrs.length 0, .int .i64 n.size, .int .i64 n.count, .slice none n.items.length 0] nodeT))
  clear hr1 hb1
  go_wp2_with fail
  generalize w1.alloc (.cells #[.int .i64 n.kind, .string n.data, .slice none n.ptrs.length 0, .int .i64 n.size, .int .i64 n.count, .slice none n.items.length 0] nodeT) = W1 at *
  refine (HI.out _).mono ?_
  rintro e w2 ⟨rfl, hb2⟩
  have hbx := (Below.refl w2.heap.size w2).alloc (Nat.le_refl _) (.cells #[.int .i64 n.kind, .string n.data, .slice none n.ptrs.length 0, .int .i64 n.size, .int .i64 n.count, .slice none n.items.length 0] nodeT)
  have HR2 := Lib.hid (heap_alloc_new w2 (.cells #[.int .i64 n.kind, .string n.data, .slice none n.ptrs.length 0, .int .i64 n.size, .int .i64 n.count, .slice none n.items.length 0] nodeT))
  have hq := (hbx.block _ (by have := hb2.size; have := row_lt HR1.out; omega)).trans ((hb2.block _ (row_lt HR1.out)).trans HR1.out)
  have HQ2 := Lib.hid hq
  have HB2 := Lib.hid ((HB1.out.trans (hb2.mono HB1.out.size)).alloc (HB1.out.trans (hb2.mono HB1.out.size)).size (.cells #[.int .i64 n.kind, .string n.data, .slice none n.ptrs.length 0, .int .i64 n.size, .int .i64 n.count, .slice none n.items.length 0] nodeT))
  obtain ⟨a0, a1, a2, a3, a4, a5⟩ := cells6 hq
  clear hbx hb2 hq
  go_wp2_with fail
  clear a0 a1 a2 a3 a4 a5
  generalize w2.alloc (.cells #[.int .i64 n.kind, .string n.data, .slice none n.ptrs.length 0, .int .i64 n.size, .int .i64 n.count, .slice none n.items.length 0] nodeT) = W2 at *
  have HA := Lib.hid (row_lt HQ2.out)
  have HG := Lib.hid (row_lt HR2.out)
  refine (HE.out _).mono ?_
  rintro e w3 ⟨rfl, hb⟩
  have HX3 := Lib.hid hb
  clear hb
  obtain ⟨a0, a1, a2, a3, a4, a5⟩ := cells6 ((HX3.out.block _ HA.out).trans HQ2.out)
  obtain ⟨b0, b1, b2, b3, b4, b5⟩ := cells6 ((HX3.out.block _ HG.out).trans HR2.out)
  go_wp2_with fail
  refine (HM.out _).mono ?_
  rintro e w4 ⟨rfl, hb⟩
  have HX4 := Lib.hid (HX3.out.trans (hb.mono HX3.out.size))
  clear hb a0 a1 a2 a3 a4 a5 b0 b1 b2 b3 b4 b5
  obtain ⟨a0, a1, a2, a3, a4, a5⟩ := cells6 ((HX4.out.block _ HA.out).trans HQ2.out)
  obtain ⟨b0, b1, b2, b3, b4, b5⟩ := cells6 ((HX4.out.block _ HG.out).trans HR2.out)
  go_wp2_with fail
  refine (HH.out _).mono ?_
  rintro e w5 ⟨rfl, hb⟩
  have HX5 := Lib.hid (HX4.out.trans (hb.mono HX4.out.size))
  clear hb a0 a1 a2 a3 a4 a5 b0 b1 b2 b3 b4 b5
  obtain ⟨a0, a1, a2, a3, a4, a5⟩ := cells6 ((HX5.out.block _ HA.out).trans HQ2.out)
  obtain ⟨b0, b1, b2, b3, b4, b5⟩ := cells6 ((HX5.out.block _ HG.out).trans HR2.out)
  go_wp2_with fail
  refine (HI.out _).mono ?_
  rintro e w6 ⟨rfl, hb6⟩
  have hbx := (Below.refl w6.heap.size w6).alloc (Nat.le_refl _) (.cells #[.int .i64 n.kind, .string n.data, .slice none n.ptrs.length 0, .int .i64 n.size, .int .i64 n.count, .slice none n.items.length 0] nodeT)
  have HX6 := Lib.hid ((HX5.out.trans (hb6.mono HX5.out.size)).trans (hbx.mono (HX5.out.trans (hb6.mono HX5.out.size)).size))
  clear a0 a1 a2 a3 a4 a5 b0 b1 b2 b3 b4 b5
  obtain ⟨a0, a1, a2, a3, a4, a5⟩ := cells6 ((HX6.out.block _ HA.out).trans HQ2.out)
  obtain ⟨b0, b1, b2, b3, b4, b5⟩ := cells6 ((HX6.out.block _ HG.out).trans HR2.out)
  clear hbx hb6
  go_wp2_with fail
  refine (HE.out _).mono ?_
  rintro e w7 ⟨rfl, hb⟩
  have HX7 := Lib.hid (HX6.out.trans (hb.mono HX6.out.size))
  clear hb a0 a1 a2 a3 a4 a5 b0 b1 b2 b3 b4 b5
  obtain ⟨a0, a1, a2, a3, a4, a5⟩ := cells6 ((HX7.out.block _ HA.out).trans HQ2.out)
  obtain ⟨b0, b1, b2, b3, b4, b5⟩ := cells6 ((HX7.out.block _ HG.out).trans HR2.out)
  go_wp2_with fail
  refine (HH.out _).mono ?_
  rintro e w8 ⟨rfl, hb⟩
  have HX8 := Lib.hid (HX7.out.trans (hb.mono HX7.out.size))
  clear hb a0 a1 a2 a3 a4 a5 b0 b1 b2 b3 b4 b5
  obtain ⟨a0, a1, a2, a3, a4, a5⟩ := cells6 ((HX8.out.block _ HA.out).trans HQ2.out)
  obtain ⟨b0, b1, b2, b3, b4, b5⟩ := cells6 ((HX8.out.block _ HG.out).trans HR2.out)
  go_wp2_with fail
  go_ret
  exact ⟨rfl, HB2.out.trans (HX8.out.mono HB2.out.size)⟩
end Go.Proofs.Ytabipkpgmlmkcaa
