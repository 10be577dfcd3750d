/- NodeOk, NodeWords: the program's. -/
import Derived.Test.YtfiiopchfmcjdaaNdAllow
namespace Go.Proofs.Ytfiiopchfmcjdaa
open Go.RowKit
def nodeOk (n : Nd) : Bool := okN 8 n && decide (wordsN 8 n ≤ 199)
def nodeWords (n : Nd) : Nat := if nodeOk n then wordsN 8 n else 0
theorem al_ok {n : Nd} {r : Bool} {z : Int} (ht : r = true → okN 8 n = true ∧ z = 0 + (wordsN 8 n : Nat) ∧ z ≤ 199) (hf : r = false → okN 8 n = false ∨ 200 ≤ (0 : Int) + (wordsN 8 n : Nat)) : r = nodeOk n ∧ (r = true → z = (nodeWords n : Nat)) := by
  cases r with
  | true =>
    obtain ⟨h1, h2, h3⟩ := ht rfl
    have h4 : nodeOk n = true := by unfold nodeOk; rw [h1]; simp; omega
    refine ⟨h4.symm, fun _ => ?_⟩
    unfold nodeWords
    rw [h4, if_pos rfl]
    omega
  | false =>
    refine ⟨?_, fun h => by cases h⟩
    unfold nodeOk
    rcases hf rfl with h | h
    · rw [h]; rfl
    · rw [show decide (wordsN 8 n ≤ 199) = false by simp; omega, Bool.and_false]
set_option maxHeartbeats 2000000 in
set_option maxRecDepth 100000 in
theorem implNodeOk_a (m : Nat) (n : Nd) (h : Hd) (w : World) (S : Nat → Prop) (hn : NdAt w S m n h) (ht : totN m n ≤ 2000000) :
    Calls Try.prog 13 #[.agg #[.int .i64 n.kind, .string n.data, .slice h.A n.ptrs.length h.a, .int .i64 n.size, .int .i64 n.count, .slice h.B n.items.length h.b]] w fun e w' => e = .returned (.bool (nodeOk n)) ∧ Below w.heap.size w w' := by
  have hb0 : Below w.heap.size w ((w.alloc (.cells #[.int .i64 n.kind, .string n.data, .slice h.A n.ptrs.length h.a, .int .i64 n.size, .int .i64 n.count, .slice h.B n.items.length h.b] nodeT)).alloc (.cells #[.int .i64 0] measT)) := ((Below.refl _ w).alloc (Nat.le_refl _) _).alloc (by simp) _
  have hr := heap_alloc_new (w.alloc (.cells #[.int .i64 n.kind, .string n.data, .slice h.A n.ptrs.length h.a, .int .i64 n.size, .int .i64 n.count, .slice h.B n.items.length h.b] nodeT)) (.cells #[.int .i64 0] measT)
  rw [show (w.alloc (.cells #[.int .i64 n.kind, .string n.data, .slice h.A n.ptrs.length h.a, .int .i64 n.size, .int .i64 n.count, .slice h.B n.items.length h.b] nodeT)).heap.size = w.heap.size + 1 by simp] at hr
  have hz : ((w.alloc (.cells #[.int .i64 n.kind, .string n.data, .slice h.A n.ptrs.length h.a, .int .i64 n.size, .int .i64 n.count, .slice h.B n.items.length h.b] nodeT)).alloc (.cells #[.int .i64 0] measT)).heap.size = w.heap.size + 2 := by simp
  have HC := Lib.hid (allows_any 8 (by decide) m n h _ S (w.heap.size + 1) 0 (hn.below hb0) ht hr (by omega) (by omega))
  unfold AlP at HC
  rw [show (9 : Int) - ((8 : Nat) : Int) = 1 by decide, hz] at HC
  have HB0 := Lib.hid hb0
  clear hn ht hb0 hr hz
  go_enter Try.func13, Try.ntmps13
  go_wp2_with fail
  refine HC.out.mono ?_
  rintro e w2 ⟨r, z, rfl, kp, row, z0, z1, h1, h2⟩
  have HE := Lib.hid (al_ok h1 h2).1
  have HB := Lib.hid (HB0.out.trans (kp.below (B' := w.heap.size) (by omega) (by omega)))
  clear kp row h1 h2
  go_wp2
  go_ret
  exact ⟨by rw [HE.out]; rfl, HB.out⟩
set_option maxHeartbeats 2000000 in
set_option maxRecDepth 100000 in
theorem implNodeWords_a (m : Nat) (n : Nd) (h : Hd) (w : World) (S : Nat → Prop) (hn : NdAt w S m n h) (ht : totN m n ≤ 2000000) :
    Calls Try.prog 15 #[.agg #[.int .i64 n.kind, .string n.data, .slice h.A n.ptrs.length h.a, .int .i64 n.size, .int .i64 n.count, .slice h.B n.items.length h.b]] w fun e w' => e = .returned (.int .i64 (nodeWords n : Nat)) ∧ Below w.heap.size w w' := by
  have hb0 : Below w.heap.size w ((w.alloc (.cells #[.int .i64 n.kind, .string n.data, .slice h.A n.ptrs.length h.a, .int .i64 n.size, .int .i64 n.count, .slice h.B n.items.length h.b] nodeT)).alloc (.cells #[.int .i64 0] measT)) := ((Below.refl _ w).alloc (Nat.le_refl _) _).alloc (by simp) _
  have hr := heap_alloc_new (w.alloc (.cells #[.int .i64 n.kind, .string n.data, .slice h.A n.ptrs.length h.a, .int .i64 n.size, .int .i64 n.count, .slice h.B n.items.length h.b] nodeT)) (.cells #[.int .i64 0] measT)
  rw [show (w.alloc (.cells #[.int .i64 n.kind, .string n.data, .slice h.A n.ptrs.length h.a, .int .i64 n.size, .int .i64 n.count, .slice h.B n.items.length h.b] nodeT)).heap.size = w.heap.size + 1 by simp] at hr
  have hz : ((w.alloc (.cells #[.int .i64 n.kind, .string n.data, .slice h.A n.ptrs.length h.a, .int .i64 n.size, .int .i64 n.count, .slice h.B n.items.length h.b] nodeT)).alloc (.cells #[.int .i64 0] measT)).heap.size = w.heap.size + 2 := by simp
  have HC := Lib.hid (allows_any 8 (by decide) m n h _ S (w.heap.size + 1) 0 (hn.below hb0) ht hr (by omega) (by omega))
  unfold AlP at HC
  rw [show (9 : Int) - ((8 : Nat) : Int) = 1 by decide, hz] at HC
  have HB0 := Lib.hid hb0
  clear hn ht hb0 hr hz
  go_enter Try.func15, Try.ntmps15
  go_wp2_with fail
  refine HC.out.mono ?_
  rintro e w2 ⟨r, z, rfl, kp, row, z0, z1, h1, h2⟩
  have HE := Lib.hid (al_ok h1 h2)
  have HB := Lib.hid (HB0.out.trans (kp.below (B' := w.heap.size) (by omega) (by omega)))
  have hmc := meas_cell row
  clear kp row h1 h2
  cases r
  · have HX : Hid (nodeWords n = 0) := Lib.hid (by unfold nodeWords; rw [← HE.out.1]; rfl)
    go_wp2
    go_ret
    exact ⟨by rw [HX.out]; rfl, HB.out⟩
  · have HX := Lib.hid (HE.out.2 rfl)
    go_wp2
    go_ret
    exact ⟨by rw [← HX.out]; rfl, HB.out⟩
end Go.Proofs.Ytfiiopchfmcjdaa
