/- The law FnExactPointGet walked. -/
import Derived.Test.YtialmfolgendlabPtGetS
import Derived.Test.YtialmfolgendlabPtGetI
import Derived.Test.YtialmfolgendlabEqPoint
import Derived.Deep.RegionLaw
import Derived.Deep.RegionWith
import Derived.Deep.DeepMust
namespace Go.Proofs.Ytialmfolgendlab
open Go.RowKit
def getG (s : ByteArray) : Int × Int × Int × Int × Int × Int × Int × Bool := if s.size = 8 then getP (leN s.data.toList 0 4) (leN s.data.toList 4 4) else (4, 0, 0, 0, 0, 0, 0, false)
theorem store8 {B : Nat} {w w1 : World} {b : Nat} {T : TypeId} {a0 a1 a2 a3 a4 a5 a6 a7 : Value} (h : w1.heap[b]? = some (.cells #[a0, a1, a2, a3, a4, a5, a6, a7] T (0, 0))) (hb : Below B w w1) (hB : B ≤ b) (v0 v1 v2 v3 v4 v5 v6 v7 : Value) :
    ∃ wf, ((((((((w1.setCell ⟨b, 0, none⟩ v0).setCell ⟨b, 1, none⟩ v1).setCell ⟨b, 2, none⟩ v2).setCell ⟨b, 3, none⟩ v3).setCell ⟨b, 4, none⟩ v4).setCell ⟨b, 5, none⟩ v5).setCell ⟨b, 6, none⟩ v6).setCell ⟨b, 7, none⟩ v7) = wf ∧ wf.heap[b]? = some (.cells #[v0, v1, v2, v3, v4, v5, v6, v7] T (0, 0)) ∧ Below B w wf := by
  have h0 := heap_set (i := 0) v0 h
  have h1 := heap_set (i := 1) v1 h0
  have h2 := heap_set (i := 2) v2 h1
  have h3 := heap_set (i := 3) v3 h2
  have h4 := heap_set (i := 4) v4 h3
  have h5 := heap_set (i := 5) v5 h4
  have h6 := heap_set (i := 6) v6 h5
  have h7 := heap_set (i := 7) v7 h6
  exact ⟨_, rfl, by simpa using h7, ((((((((hb.setCell hB v0).setCell hB v1).setCell hB v2).setCell hB v3).setCell hB v4).setCell hB v5).setCell hB v6).setCell hB v7)⟩
theorem pointOf_get (lo hi : Nat) (w : World) :
    Calls Try.prog 40 #[ptI (getP lo hi)] w fun e w' => e = .returned (ptT (getP lo hi)) ∧ Below w.heap.size w w' := by
  have h : (getP lo hi = (0, 0, 0, 0, 0, 0, 0, false)) ∨ (∃ o d p, getP lo hi = (1, o, d, p, 0, 0, 0, false)) ∨ (∃ o s c, getP lo hi = (2, o, 0, 0, s, c, 0, false)) ∨ (∃ o g t, getP lo hi = (3, o, 0, 0, 0, 0, g, t)) ∨ (getP lo hi = (4, 0, 0, 0, 0, 0, 0, false)) := by
    unfold getP
    split
    · exact .inl rfl
    split
    · exact .inr (.inl ⟨_, _, _, rfl⟩)
    split
    · exact .inr (.inr (.inl ⟨_, _, _, rfl⟩))
    split
    · exact .inr (.inr (.inr (.inl ⟨_, _, _, rfl⟩)))
    · exact .inr (.inr (.inr (.inr rfl)))
  rcases h with h | ⟨o, d, p, h⟩ | ⟨o, s, c, h⟩ | ⟨o, g, t, h⟩ | h
  · rw [h]; exact pointOf_noP w
  · rw [h]; exact pointOf_str o d p w
  · rw [h]; exact pointOf_lis o s c w
  · rw [h]; exact pointOf_far o g t w
  · rw [h]; exact pointOf_bad w
set_option maxHeartbeats 1000000 in
set_option maxRecDepth 100000 in
theorem specPointGet_any (s : ByteArray) (w : World) (_hs : s.size ≤ maxLen) :
    Calls Try.prog 19 #[.string s] w fun e w' => e = .returned (ptT (getG s)) ∧ Below w.heap.size w w' := by
  by_cases h8 : s.size = 8
  · have hg : getG s = getP (leN s.data.toList 0 4) (leN s.data.toList 4 4) := if_pos h8
    have hG := fun w => l2Get_any s w h8
    rw [hg]
    generalize getP (leN s.data.toList 0 4) (leN s.data.toList 4 4) = x at hG ⊢
    clear hg
    obtain ⟨k, o, d, p, z, c, g, t⟩ := x
    unfold ptT ptv at hG ⊢
    simp only at hG ⊢
    have HG := Lib.hid hG
    have b8 : ((s.size : Int) == 8) = true := by simp; omega
    clear hG h8
    go_enter Try.func19, Try.ntmps19
    go_wp2_with (first | (go_at_call 48; refine (HG.out _).mono ?_; rintro e w1 ⟨rfl, hb1⟩; have hc := kept8 (heap_alloc_new w _) hb1; obtain ⟨c0, c1, c2, c3, c4, c5, c6, c7⟩ := cells8 hc; have z0 := frozen_row hc 0; have z1 := frozen_row hc 1; have z2 := frozen_row hc 2; have z3 := frozen_row hc 3; have z4 := frozen_row hc 4; have z5 := frozen_row hc 5; have z6 := frozen_row hc 6; have z7 := frozen_row hc 7; have HC := Lib.hid hc; have HB : Hid (Below w.heap.size w w1) := ((Below.refl w.heap.size w).alloc (Nat.le_refl _) _).trans (hb1.mono (by simp)); clear hc hb1))
    obtain ⟨wf, hwf, hf, hB⟩ := store8 HC.out HB.out (Nat.le_refl _) (.int .i64 k) (.int .i64 o) (.int .i64 d) (.int .i64 p) (.int .i64 z) (.int .i64 c) (.int .i64 g) (.bool t)
    rw [hwf]
    obtain ⟨g0, g1, g2, g3, g4, g5, g6, g7⟩ := cells8 hf
    exact bodyPost_ret (v := .agg #[.int .i64 k, .int .i64 o, .int .i64 d, .int .i64 p, .int .i64 z, .int .i64 c, .int .i64 g, .bool t]) (by simp [results, Try.results19, go_sem, g0, g1, g2, g3, g4, g5, g6, g7]) rfl ⟨rfl, hB⟩
  · have hg : getG s = (4, 0, 0, 0, 0, 0, 0, false) := if_neg h8
    have b8 : ((s.size : Int) == 8) = false := by simp; omega
    rw [hg]
    clear hg h8
    go_enter Try.func19, Try.ntmps19
    go_wp2
    exact bodyPost_ret (v := .agg #[.int .i64 4, .int .i64 0, .int .i64 0, .int .i64 0, .int .i64 0, .int .i64 0, .int .i64 0, .bool false]) (by simp [results, Try.results19, go_sem]) rfl ⟨rfl, by repeat (first | exact Below.refl _ _ | refine Below.alloc ?_ (by simp; try omega) _)⟩
set_option maxHeartbeats 1000000 in
set_option maxRecDepth 100000 in
theorem implPointGet_any (s : ByteArray) (w : World) (hs : s.size ≤ maxLen) :
    Calls Try.prog 17 #[.string s] w fun e w' => e = .returned (ptT (getG s)) ∧ Below w.heap.size w w' := by
  unfold maxLen at hs
  by_cases h8 : s.size = 8
  · have hg : getG s = getP (leN s.data.toList 0 4) (leN s.data.toList 4 4) := if_pos h8
    have hlen : s.data.toList.length = 8 := by simp [h8]
    have hW := fun w => wordAt_any s 0 w hs (by decide) (by omega)
    have hW2 : ∀ w : World, Calls Try.prog 43 #[.string s, .int .i64 0] w fun e w' => e = .returned (.agg (wd s.data.toList)) ∧ Below w.heap.size w w' := fun w => by
      have := hW w
      rwa [show ((s.data.toList.drop (8 * (0 : Int).toNat)).take 8) = s.data.toList by simp [List.take_of_length_le, hlen]] at this
    rw [hg]
    clear hW hg
    generalize s.data.toList = l at *
    obtain ⟨x0, x1, x2, x3, x4, x5, x6, x7, rfl⟩ := len8 hlen
    have hR := readPointer_any x0 x1 x2 x3 x4 x5 x6 x7
    have hP := pointOf_get (leN [x0, x1, x2, x3, x4, x5, x6, x7] 0 4) (leN [x0, x1, x2, x3, x4, x5, x6, x7] 4 4)
    rw [show Value.agg (wd [x0, x1, x2, x3, x4, x5, x6, x7]) = wv x0 x1 x2 x3 x4 x5 x6 x7 from rfl] at hW2
    generalize wv x0 x1 x2 x3 x4 x5 x6 x7 = WV at *
    generalize getP (leN [x0, x1, x2, x3, x4, x5, x6, x7] 0 4) (leN [x0, x1, x2, x3, x4, x5, x6, x7] 4 4) = x at *
    generalize ptI x = PI at *
    obtain ⟨k, o, d, p, z, c, g, t⟩ := x
    unfold ptT ptv at hP ⊢
    simp only at hP ⊢
    have HW := Lib.hid hW2
    have HR := Lib.hid hR
    have HP := Lib.hid hP
    have b8 : ((s.size : Int) == 8) = true := by simp; omega
    clear hW2 hR hP h8 hlen
    go_enter Try.func17, Try.ntmps17
    go_wp2_with (first | (go_at_call 43; refine (HW.out _).mono ?_; rintro e w2 ⟨rfl, hb2⟩) | (go_at_call 42; refine (HR.out _).mono ?_; rintro e w3 ⟨rfl, hb3⟩) | (go_at_call 40; refine (HP.out _).mono ?_; rintro e w1 ⟨rfl, hb1⟩; have hc := kept8 (kept8 (kept8 (heap_alloc_new w _) hb2) hb3) hb1; obtain ⟨c0, c1, c2, c3, c4, c5, c6, c7⟩ := cells8 hc; have z0 := frozen_row hc 0; have z1 := frozen_row hc 1; have z2 := frozen_row hc 2; have z3 := frozen_row hc 3; have z4 := frozen_row hc 4; have z5 := frozen_row hc 5; have z6 := frozen_row hc 6; have z7 := frozen_row hc 7; have HC := Lib.hid hc; have B2 : Below w.heap.size w w2 := ((Below.refl w.heap.size w).alloc (Nat.le_refl _) _).trans (hb2.mono (by simp)); have B3 := B2.trans (hb3.mono B2.size); have HB : Hid (Below w.heap.size w w1) := B3.trans (hb1.mono B3.size); clear hc hb1 hb2 hb3 B2 B3))
    obtain ⟨wf, hwf, hf, hB⟩ := store8 HC.out HB.out (Nat.le_refl _) (.int .i64 k) (.int .i64 o) (.int .i64 d) (.int .i64 p) (.int .i64 z) (.int .i64 c) (.int .i64 g) (.bool t)
    rw [hwf]
    obtain ⟨g0, g1, g2, g3, g4, g5, g6, g7⟩ := cells8 hf
    exact bodyPost_ret (v := .agg #[.int .i64 k, .int .i64 o, .int .i64 d, .int .i64 p, .int .i64 z, .int .i64 c, .int .i64 g, .bool t]) (by simp [results, Try.results17, go_sem, g0, g1, g2, g3, g4, g5, g6, g7]) rfl ⟨rfl, hB⟩
  · have hg : getG s = (4, 0, 0, 0, 0, 0, 0, false) := if_neg h8
    have b8 : ((s.size : Int) == 8) = false := by simp; omega
    rw [hg]
    clear hg h8
    go_enter Try.func17, Try.ntmps17
    go_wp2
    exact bodyPost_ret (v := .agg #[.int .i64 4, .int .i64 0, .int .i64 0, .int .i64 0, .int .i64 0, .int .i64 0, .int .i64 0, .bool false]) (by simp [results, Try.results17, go_sem]) rfl ⟨rfl, by repeat (first | exact Below.refl _ _ | refine Below.alloc ?_ (by simp; try omega) _)⟩
set_option maxHeartbeats 2000000 in
set_option maxRecDepth 100000 in
theorem walkExactPointGet (s : ByteArray) (hs : s.size ≤ maxLen) (w : World) :
    Calls Try.prog 8 #[.string s] w fun e w' => e = .returned (.bool true) ∧ Below w.heap.size w w' := by
  have hS := specPointGet_any s
  have hI := implPointGet_any s
  generalize getG s = x at *
  obtain ⟨k, o, d, p, z, c, g, t⟩ := x
  unfold ptT ptv at hS hI
  simp only at hS hI
  have HS := Lib.hid (fun w => hS w hs)
  have HI := Lib.hid (fun w => hI w hs)
  have hE := eqPoint_same k o d p z c g t
  unfold ptv at hE
  have HE := Lib.hid hE
  clear hS hI hE
  unfold maxLen at hs
  by_cases hb : s.size ≤ 1048576
  · go_enter Try.func8, Try.ntmps8
    go_wp2_with (first | (go_at_call 19; refine (HS.out _).mono ?_; rintro e w1 ⟨rfl, hb1⟩) | (go_at_call 17; refine (HI.out _).mono ?_; rintro e w2 ⟨rfl, hb2⟩; have hk2 := heap_alloc_keep (kept8 (heap_alloc_new w1 _) hb2) (.cells #[.int .i64 k, .int .i64 o, .int .i64 d, .int .i64 p, .int .i64 z, .int .i64 c, .int .i64 g, .bool t] 24 (0, 0)); obtain ⟨c0, c1, c2, c3, c4, c5, c6, c7⟩ := cells8 hk2; clear hk2) | (go_at_call 28; refine (HE.out _).mono ?_; rintro e w3 ⟨rfl, hb3⟩))
    go_ret
    have B1 : Below w.heap.size w (w1.alloc (.cells #[.int .i64 k, .int .i64 o, .int .i64 d, .int .i64 p, .int .i64 z, .int .i64 c, .int .i64 g, .bool t] 24 (0, 0))) := hb1.alloc hb1.size _
    have B2 := B1.trans (hb2.mono B1.size)
    have B3 : Below w.heap.size w (w2.alloc (.cells #[.int .i64 k, .int .i64 o, .int .i64 d, .int .i64 p, .int .i64 z, .int .i64 c, .int .i64 g, .bool t] 24 (0, 0))) := B2.alloc B2.size _
    exact ⟨rfl, B3.trans (hb3.mono B3.size)⟩
  · go_enter Try.func8, Try.ntmps8
    go_wp2
    go_ret
    exact ⟨rfl, Below.refl _ _⟩
end Go.Proofs.Ytialmfolgendlab
