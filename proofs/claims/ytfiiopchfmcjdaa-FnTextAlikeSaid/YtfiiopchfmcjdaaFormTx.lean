/- The one form of a text, and whether two texts are alike: the program's. -/
import Derived.Test.YtfiiopchfmcjdaaTextP
import Derived.Test.YtfiiopchfmcjdaaNodeSame
import Derived.Lib.QuietBelow
namespace Go.Proofs.Ytfiiopchfmcjdaa
open Go.RowKit
theorem formedAll_nil (A : Option Addr) (c : Nat) (v : Value) (w : World) :
    Calls Try.prog 46 #[.slice A 0 c, v] w fun e w' => e = .returned (.slice none 0 0) ∧ w' = w := by
  go_enter Try.func46, Try.ntmps46
  go_wp2
  go_loopw [5, 10] (fun q i wr => q = .slice none 0 0 ∧ i = .int .i64 0 ∧ wr = w) (fun _ _ _ => 0)
  case atStart => exact ⟨rfl, rfl, rfl⟩
  case round =>
    obtain ⟨rfl, rfl, rfl⟩ := hrel
    go_wp2
    go_ret
    exact ⟨rfl, rfl⟩
theorem evened_nil (w : World) :
    Calls Try.prog 47 #[.slice none 0 0] w fun e w' => e = .returned (.slice none 0 0) ∧ w' = w := by
  go_enter Try.func47, Try.ntmps47
  go_wp2
  go_loopw [3, 4, 11] (fun p q i wr => p = .int .i64 0 ∧ q = .int .i64 0 ∧ i = .int .i64 0 ∧ wr = w) (fun _ _ _ _ => 0)
  case atStart => exact ⟨rfl, rfl, rfl, rfl⟩
  case round =>
    obtain ⟨rfl, rfl, rfl, rfl⟩ := hrel
    go_wp2
    go_loopw [28] (fun i wq => i = .int .i64 0 ∧ wq = wr) (fun _ _ => 0)
    case atStart => exact ⟨rfl, rfl⟩
    case round =>
      obtain ⟨rfl, rfl⟩ := hrel
      go_wp2
      go_ret
      exact ⟨rfl, rfl⟩
/-- a bare list is its own one form. -/
def bareV (k : Int) (d : ByteArray) (s c : Int) : Value := .agg #[.int .i64 k, .string d, .slice none 0 0, .int .i64 s, .int .i64 c, .slice none 0 0]
set_option maxHeartbeats 2000000 in
set_option maxRecDepth 100000 in
theorem formed_bare (k : Int) (d : ByteArray) (s c : Int) (v : Value) (w : World) (hk : (k == 1) = false) :
    Calls Try.prog 25 #[.agg #[.int .i64 k, .string d, .slice none 0 0, .int .i64 s, .int .i64 c, .slice none 0 0], v] w fun e w' => e = .returned (bareV k d s c) ∧ Below w.heap.size w w' := by
  go_enter Try.func25, Try.ntmps25
  go_wp2_with fail
  refine (formedAll_nil none 0 v _).mono ?_
  rintro e w1 ⟨rfl, rfl⟩
  go_wp2_with fail
  refine (formedAll_nil none 0 v _).mono ?_
  rintro e w1 ⟨rfl, rfl⟩
  go_wp2_with fail
  refine (evened_nil _).mono ?_
  rintro e w1 ⟨rfl, rfl⟩
  go_wp2_with fail
  have he := heap_alloc_new (w.alloc (.cells #[.int .i64 k, .string d, .slice none 0 0, .int .i64 s, .int .i64 c, .slice none 0 0] nodeT)) (.cells #[.int .i64 k, .string d, .slice none 0 0, .int .i64 s, .int .i64 c, .slice none 0 0] nodeT)
  rw [show (w.alloc (.cells #[.int .i64 k, .string d, .slice none 0 0, .int .i64 s, .int .i64 c, .slice none 0 0] nodeT)).heap.size = w.heap.size + 1 by simp] at he
  obtain ⟨e0, e1, e2, e3, e4, e5⟩ := cells6 he
  have hbf : Below w.heap.size w ((w.alloc (.cells #[.int .i64 k, .string d, .slice none 0 0, .int .i64 s, .int .i64 c, .slice none 0 0] nodeT)).alloc (.cells #[.int .i64 k, .string d, .slice none 0 0, .int .i64 s, .int .i64 c, .slice none 0 0] nodeT)) := ((Below.refl _ w).alloc (Nat.le_refl _) _).alloc (by simp) _
  exact bodyPost_ret (v := bareV k d s c) (by unfold bareV; simp [results, Try.results25, go_sem, e0, e1, e2, e3, e4, e5]) rfl ⟨rfl, hbf⟩
def bareN (k : Int) (d : ByteArray) (s c : Int) : Nd := .mk k d [] s c []
set_option maxHeartbeats 2000000 in
set_option maxRecDepth 100000 in
theorem canon_bare (k : Int) (d : ByteArray) (s c : Int) (w : World) (hk : (k == 1) = false) (hok : nodeOk (bareN k d s c) = true) (hd : d.size ≤ 2000) :
    Calls Try.prog 8 #[.agg #[.int .i64 k, .string d, .slice none 0 0, .int .i64 s, .int .i64 c, .slice none 0 0]] w fun e w' => e = .returned (bareV k d s c) ∧ Below w.heap.size w w' := by
  have HO : Hid (∀ W : World, Calls Try.prog 13 #[.agg #[.int .i64 k, .string d, .slice none 0 0, .int .i64 s, .int .i64 c, .slice none 0 0]] W fun e w' => e = .returned (.bool true) ∧ Below W.heap.size W w') := Lib.hid fun W => by
    have := implNodeOk_a 0 (bareN k d s c) noHd W Any (nd_bare W Any 0 k d s c (by unfold maxLen; omega)) (show d.size + 0 + 0 ≤ 2000000 by omega)
    rw [hok] at this
    exact this
  have HF : Hid (∀ (v : Value) (W : World), Calls Try.prog 25 #[.agg #[.int .i64 k, .string d, .slice none 0 0, .int .i64 s, .int .i64 c, .slice none 0 0], v] W fun e w' => e = .returned (.agg #[.int .i64 k, .string d, .slice none 0 0, .int .i64 s, .int .i64 c, .slice none 0 0]) ∧ Below W.heap.size W w') := Lib.hid fun v W => formed_bare k d s c v W hk
  have hb0 : Below w.heap.size w ((w.alloc (.cells #[.int .i64 k, .string d, .slice none 0 0, .int .i64 s, .int .i64 c, .slice none 0 0] nodeT)).alloc (.cells #[.int .i64 0, .string { data := #[] }, .slice none 0 0, .int .i64 0, .int .i64 0, .slice none 0 0] nodeT)) := ((Below.refl _ w).alloc (Nat.le_refl _) _).alloc (by simp) _
  have hx0 : ((w.alloc (.cells #[.int .i64 k, .string d, .slice none 0 0, .int .i64 s, .int .i64 c, .slice none 0 0] nodeT)).alloc (.cells #[.int .i64 0, .string { data := #[] }, .slice none 0 0, .int .i64 0, .int .i64 0, .slice none 0 0] nodeT)).heap[w.heap.size]? = some (.cells #[.int .i64 k, .string d, .slice none 0 0, .int .i64 s, .int .i64 c, .slice none 0 0] nodeT (0, 0)) := heap_alloc_keep (heap_alloc_new w _) _
  have hz0 : ((w.alloc (.cells #[.int .i64 k, .string d, .slice none 0 0, .int .i64 s, .int .i64 c, .slice none 0 0] nodeT)).alloc (.cells #[.int .i64 0, .string { data := #[] }, .slice none 0 0, .int .i64 0, .int .i64 0, .slice none 0 0] nodeT)).heap[w.heap.size + 1]? = some (.cells #[.int .i64 0, .string { data := #[] }, .slice none 0 0, .int .i64 0, .int .i64 0, .slice none 0 0] nodeT (0, 0)) := by have := heap_alloc_new (w.alloc (.cells #[.int .i64 k, .string d, .slice none 0 0, .int .i64 s, .int .i64 c, .slice none 0 0] nodeT)) (.cells #[.int .i64 0, .string { data := #[] }, .slice none 0 0, .int .i64 0, .int .i64 0, .slice none 0 0] nodeT); rwa [show (w.alloc (.cells #[.int .i64 k, .string d, .slice none 0 0, .int .i64 s, .int .i64 c, .slice none 0 0] nodeT)).heap.size = w.heap.size + 1 by simp] at this
  have HB0 := Lib.hid hb0
  have HX0 := Lib.hid hx0
  have HZ0 := Lib.hid hz0
  clear hb0 hx0 hz0 hok
  go_enter Try.func8, Try.ntmps8
  go_wp2_with fail
  generalize ((w.alloc (.cells #[.int .i64 k, .string d, .slice none 0 0, .int .i64 s, .int .i64 c, .slice none 0 0] nodeT)).alloc (.cells #[.int .i64 0, .string { data := #[] }, .slice none 0 0, .int .i64 0, .int .i64 0, .slice none 0 0] nodeT)) = W0 at *
  refine (HO.out _).mono ?_
  rintro e w1 ⟨rfl, hb1⟩
  have HB1 := Lib.hid (HB0.out.trans (hb1.mono HB0.out.size))
  have HX1 := Lib.hid ((hb1.block _ (row_lt HX0.out)).trans HX0.out)
  have HZ1 := Lib.hid ((hb1.block _ (row_lt HZ0.out)).trans HZ0.out)
  clear hb1
  obtain ⟨c0, c1, c2, c3, c4, c5⟩ := cells6 HX1.out
  go_wp2_with fail
  refine (HF.out _ _).mono ?_
  rintro e w2 ⟨rfl, hb2⟩
  have HB2 := Lib.hid (HB1.out.trans (hb2.mono HB1.out.size))
  have HZ2 := Lib.hid ((hb2.block _ (row_lt HZ1.out)).trans HZ1.out)
  clear hb2 c0 c1 c2 c3 c4 c5
  obtain ⟨z0, z1, z2, z3, z4, z5⟩ := cells6 HZ2.out
  have zf := row_free HZ2.out
  go_wp2_with fail
  have hzr := row_setN (row_setN (row_setN (row_setN (row_setN (row_setN HZ2.out 0 (.int .i64 k)) 1 (.string d)) 2 (.slice none 0 0)) 3 (.int .i64 s)) 4 (.int .i64 c)) 5 (.slice none 0 0)
  have hbf := (((((HB2.out.setCell (p := ⟨w.heap.size + 1, 0, none⟩) (by simp) (.int .i64 k)).setCell (p := ⟨w.heap.size + 1, 1, none⟩) (by simp) (.string d)).setCell (p := ⟨w.heap.size + 1, 2, none⟩) (by simp) (.slice none 0 0)).setCell (p := ⟨w.heap.size + 1, 3, none⟩) (by simp) (.int .i64 s)).setCell (p := ⟨w.heap.size + 1, 4, none⟩) (by simp) (.int .i64 c)).setCell (p := ⟨w.heap.size + 1, 5, none⟩) (by simp) (.slice none 0 0)
  generalize ((((((w2.setCell ⟨w.heap.size + 1, 0, none⟩ (.int .i64 k)).setCell ⟨w.heap.size + 1, 1, none⟩ (.string d)).setCell ⟨w.heap.size + 1, 2, none⟩ (.slice none 0 0)).setCell ⟨w.heap.size + 1, 3, none⟩ (.int .i64 s)).setCell ⟨w.heap.size + 1, 4, none⟩ (.int .i64 c)).setCell ⟨w.heap.size + 1, 5, none⟩ (.slice none 0 0)) = W9 at *
  obtain ⟨e0, e1, e2, e3, e4, e5⟩ := cells6 hzr
  exact bodyPost_ret (v := bareV k d s c) (by unfold bareV; simp [results, Try.results8, go_sem, e0, e1, e2, e3, e4, e5]) rfl ⟨rfl, hbf⟩
set_option maxHeartbeats 4000000 in
set_option maxRecDepth 100000 in
theorem alike_bare (k : Int) (d : ByteArray) (s c : Int) (k' : Int) (d' : ByteArray) (s' c' : Int) (b : Bool) (w : World) (hk : (k == 1) = false) (hok : nodeOk (bareN k d s c) = true) (hd : d.size ≤ 2000) (hk' : (k' == 1) = false) (hok' : nodeOk (bareN k' d' s' c') = true) (hd' : d'.size ≤ 2000) (hb : b = true ↔ bareN k d s c = bareN k' d' s' c') :
    Calls Try.prog 14 #[.agg #[.int .i64 k, .string d, .slice none 0 0, .int .i64 s, .int .i64 c, .slice none 0 0], .agg #[.int .i64 k', .string d', .slice none 0 0, .int .i64 s', .int .i64 c', .slice none 0 0]] w fun e w' => e = .returned (.bool b) ∧ Below w.heap.size w w' := by
  have hO1 : ∀ W : World, Calls Try.prog 13 #[.agg #[.int .i64 k, .string d, .slice none 0 0, .int .i64 s, .int .i64 c, .slice none 0 0]] W fun e w' => e = .returned (.bool true) ∧ Below W.heap.size W w' := fun W => by
    have := implNodeOk_a 0 (bareN k d s c) noHd W Any (nd_bare W Any 0 k d s c (by unfold maxLen; omega)) (show d.size + 0 + 0 ≤ 2000000 by omega)
    rw [hok] at this
    exact this
  have hO2 : ∀ W : World, Calls Try.prog 13 #[.agg #[.int .i64 k', .string d', .slice none 0 0, .int .i64 s', .int .i64 c', .slice none 0 0]] W fun e w' => e = .returned (.bool true) ∧ Below W.heap.size W w' := fun W => by
    have := implNodeOk_a 0 (bareN k' d' s' c') noHd W Any (nd_bare W Any 0 k' d' s' c' (by unfold maxLen; omega)) (show d'.size + 0 + 0 ≤ 2000000 by omega)
    rw [hok'] at this
    exact this
  have hC1 : ∀ W : World, Calls Try.prog 8 #[.agg #[.int .i64 k, .string d, .slice none 0 0, .int .i64 s, .int .i64 c, .slice none 0 0]] W fun e w' => e = .returned (.agg #[.int .i64 k, .string d, .slice none 0 0, .int .i64 s, .int .i64 c, .slice none 0 0]) ∧ Below W.heap.size W w' := fun W => canon_bare k d s c W hk hok hd
  have hC2 : ∀ W : World, Calls Try.prog 8 #[.agg #[.int .i64 k', .string d', .slice none 0 0, .int .i64 s', .int .i64 c', .slice none 0 0]] W fun e w' => e = .returned (.agg #[.int .i64 k', .string d', .slice none 0 0, .int .i64 s', .int .i64 c', .slice none 0 0]) ∧ Below W.heap.size W w' := fun W => canon_bare k' d' s' c' W hk' hok' hd'
  have hN : ∀ W : World, Calls Try.prog 35 #[.agg #[.int .i64 k, .string d, .slice none 0 0, .int .i64 s, .int .i64 c, .slice none 0 0], .agg #[.int .i64 k', .string d', .slice none 0 0, .int .i64 s', .int .i64 c', .slice none 0 0]] W fun e w' => e = .returned (.bool b) ∧ Below W.heap.size W w' := fun W => implNodeSame_a 0 0 (bareN k d s c) (bareN k' d' s' c') noHd noHd W b (nd_bare W _ 0 k d s c (by unfold maxLen; omega)) (nd_bare W _ 0 k' d' s' c' (by unfold maxLen; omega)) (show d.size + 0 + 0 ≤ 2000000 by omega) hb
  have HO1 := Lib.hid hO1
  have HO2 := Lib.hid hO2
  have HC1 := Lib.hid hC1
  have HC2 := Lib.hid hC2
  have HNS := Lib.hid hN
  have hb0 : Below w.heap.size w ((w.alloc (.cells #[.int .i64 k, .string d, .slice none 0 0, .int .i64 s, .int .i64 c, .slice none 0 0] nodeT)).alloc (.cells #[.int .i64 k', .string d', .slice none 0 0, .int .i64 s', .int .i64 c', .slice none 0 0] nodeT)) := ((Below.refl _ w).alloc (Nat.le_refl _) _).alloc (by simp) _
  have hx0 : ((w.alloc (.cells #[.int .i64 k, .string d, .slice none 0 0, .int .i64 s, .int .i64 c, .slice none 0 0] nodeT)).alloc (.cells #[.int .i64 k', .string d', .slice none 0 0, .int .i64 s', .int .i64 c', .slice none 0 0] nodeT)).heap[w.heap.size]? = some (.cells #[.int .i64 k, .string d, .slice none 0 0, .int .i64 s, .int .i64 c, .slice none 0 0] nodeT (0, 0)) := heap_alloc_keep (heap_alloc_new w _) _
  have hz0 : ((w.alloc (.cells #[.int .i64 k, .string d, .slice none 0 0, .int .i64 s, .int .i64 c, .slice none 0 0] nodeT)).alloc (.cells #[.int .i64 k', .string d', .slice none 0 0, .int .i64 s', .int .i64 c', .slice none 0 0] nodeT)).heap[w.heap.size + 1]? = some (.cells #[.int .i64 k', .string d', .slice none 0 0, .int .i64 s', .int .i64 c', .slice none 0 0] nodeT (0, 0)) := by have := heap_alloc_new (w.alloc (.cells #[.int .i64 k, .string d, .slice none 0 0, .int .i64 s, .int .i64 c, .slice none 0 0] nodeT)) (.cells #[.int .i64 k', .string d', .slice none 0 0, .int .i64 s', .int .i64 c', .slice none 0 0] nodeT); rwa [show (w.alloc (.cells #[.int .i64 k, .string d, .slice none 0 0, .int .i64 s, .int .i64 c, .slice none 0 0] nodeT)).heap.size = w.heap.size + 1 by simp] at this
  have HB0 := Lib.hid hb0
  obtain ⟨a0, a1, a2, a3, a4, a5⟩ := cells6 hx0
  obtain ⟨b0, b1, b2, b3, b4, b5⟩ := cells6 hz0
  have q0 := cell_regrown a0
  have q1 := cell_regrown a1
  have q2 := cell_regrown a2
  have q3 := cell_regrown a3
  have q4 := cell_regrown a4
  have q5 := cell_regrown a5
  have r0 := cell_regrown b0
  have r1 := cell_regrown b1
  have r2 := cell_regrown b2
  have r3 := cell_regrown b3
  have r4 := cell_regrown b4
  have r5 := cell_regrown b5
  clear hb0 hx0 hz0 hok hok' hb hO1 hO2 hC1 hC2 hN
  go_enter Try.func14, Try.ntmps14
  go_wp2_with fail
  generalize ((w.alloc (.cells #[.int .i64 k, .string d, .slice none 0 0, .int .i64 s, .int .i64 c, .slice none 0 0] nodeT)).alloc (.cells #[.int .i64 k', .string d', .slice none 0 0, .int .i64 s', .int .i64 c', .slice none 0 0] nodeT)) = W0 at *
  refine wp_region_quiet_below (by kernel_rfl) (by kernel_rfl) ?_
  repeat (first | go_big_quiet_step (first | (go_at_call 13; first | with_reducible exact Calls.regrown_of (HO1.out _) | with_reducible exact Calls.regrown_of (HO2.out _)) | (go_at_call 8; first | with_reducible exact Calls.regrown_of (HC1.out _) | with_reducible exact Calls.regrown_of (HC2.out _)) | (go_at_call 35; with_reducible exact Calls.regrown_of (HNS.out _))) | quiet_step (first | (go_at_call 13; first | with_reducible exact Calls.regrown_of (HO1.out _) | with_reducible exact Calls.regrown_of (HO2.out _)) | (go_at_call 8; first | with_reducible exact Calls.regrown_of (HC1.out _) | with_reducible exact Calls.regrown_of (HC2.out _)) | (go_at_call 35; with_reducible exact Calls.regrown_of (HNS.out _))))
  refine wpQuiet_nil ?_
  intro _ hw'
  obtain ⟨⟨dq, osq⟩, hw''⟩ := hw'
  subst hw''
  have HB1 := Lib.hid (HB0.out.trans ((below_regrown W0 dq osq).mono HB0.out.size))
  clear q0 q1 q2 q3 q4 q5 a0 a1 a2 a3 a4 a5 r0 r1 r2 r3 r4 r5 b0 b1 b2 b3 b4 b5
  generalize «Sort».grow (redrawn W0 dq) osq = W1 at HB1 ⊢
  go_wp2
  go_ret
  exact ⟨rfl, HB1.out⟩
end Go.Proofs.Ytfiiopchfmcjdaa
