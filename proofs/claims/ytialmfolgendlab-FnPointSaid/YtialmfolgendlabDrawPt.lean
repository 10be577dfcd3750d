/- The specification's drawer of pointers: l13Point, l13AnyPoint; DrawPointPut, DrawPointGet. -/
import Derived.Test.YtialmfolgendlabArgB
import Derived.Test.YtialmfolgendlabMany
import Derived.Test.YtialmfolgendlabPtBits
import Derived.Test.YtialmfolgendlabPointPut
namespace Go.Proofs.Ytialmfolgendlab
open Go.RowKit
theorem Lits.new' (w : World) (vs : Array Value) (t : TypeId) (fr : Nat × Nat) {g : Nat} (hg : w.heap.size = g) : Lits (w.alloc (.cells vs t fr)) g vs.toList := hg ▸ Lits.new w vs t fr
theorem picked_store {w w1 : World} {R n b : Nat} (h : Picked w R n w1) (hR : R < w.heap.size) (hb : w.heap.size ≤ b) (i : Nat) (v : Value) : Picked w R n (w1.setCell ⟨b, i, none⟩ v) := by
  obtain ⟨⟨a, l, c, p, hp, hr, hc⟩, hk⟩ := h
  have hs := set_keeps w1.heap.size b w1 i v
  refine ⟨⟨a, l, c, p, hp, (hs.block R (row_lt hr) (by omega)).trans hr, hc.keeps hs (Nat.le_of_lt (row_lt hr)) (by omega)⟩, ?_⟩
  exact ⟨hs.os.trans hk.os, hs.tape.trans hk.tape, hs.output.trans hk.output, Nat.le_trans hk.size hs.size, fun k hk1 hk2 => (hs.block k (Nat.lt_of_lt_of_le hk1 hk.size) (by omega)).trans (hk.block k hk1 hk2)⟩
theorem picked8 {w w1 : World} {R n b : Nat} {T : TypeId} {a0 a1 a2 a3 a4 a5 a6 a7 : Value} (h : w1.heap[b]? = some (.cells #[a0, a1, a2, a3, a4, a5, a6, a7] T (0, 0))) (hp : Picked w R n w1) (hR : R < w.heap.size) (hb : w.heap.size ≤ b) (v0 v1 v2 v3 v4 v5 v6 v7 : Value) :
    ∃ wf, ((((((((w1.setCell ⟨b, 0, none⟩ v0).setCell ⟨b, 1, none⟩ v1).setCell ⟨b, 2, none⟩ v2).setCell ⟨b, 3, none⟩ v3).setCell ⟨b, 4, none⟩ v4).setCell ⟨b, 5, none⟩ v5).setCell ⟨b, 6, none⟩ v6).setCell ⟨b, 7, none⟩ v7) = wf ∧ wf.heap[b]? = some (.cells #[v0, v1, v2, v3, v4, v5, v6, v7] T (0, 0)) ∧ Picked w R n wf := by
  have h0 := heap_set (i := 0) v0 h
  have h1 := heap_set (i := 1) v1 h0
  have h2 := heap_set (i := 2) v2 h1
  have h3 := heap_set (i := 3) v3 h2
  have h4 := heap_set (i := 4) v4 h3
  have h5 := heap_set (i := 5) v5 h4
  have h6 := heap_set (i := 6) v6 h5
  have h7 := heap_set (i := 7) v7 h6
  have p0 := picked_store hp hR hb 0 v0
  have p1 := picked_store p0 hR hb 1 v1
  have p2 := picked_store p1 hR hb 2 v2
  have p3 := picked_store p2 hR hb 3 v3
  have p4 := picked_store p3 hR hb 4 v4
  have p5 := picked_store p4 hR hb 5 v5
  have p6 := picked_store p5 hR hb 6 v6
  exact ⟨_, rfl, by simpa using h7, picked_store p6 hR hb 7 v7⟩
/-- a drawn pointer: one that is ok. -/
def PtP (R n : Nat) (w : World) (e : Ending) (w' : World) : Prop := ∃ (k o d p s c g : Int) (t : Bool), ptOk k o d p s c g t = true ∧ e = .returned (ptv k o d p s c g t) ∧ Picked w R n w'
theorem pick_row {w w1 : World} {R n b : Nat} {o : Obj} (h : w.heap[b]? = some o) (hp : Picked w R n w1) (hne : b ≠ R) : w1.heap[b]? = some o := (hp.2.block b (row_lt h) hne).trans h
set_option maxHeartbeats 4000000 in
set_option maxRecDepth 100000 in
theorem l13Point_any (R n : Nat) (w : World) (h : Rd w R n) (hn : n ≤ 900000) :
    Calls Try.prog 45 #[.pointer (some ⟨R, 0, none⟩)] w (PtP R (n + 5) w) := by
  have hRw := h.lt
  go_enter Try.func45, Try.ntmps45
  go_wp2_with fail
  have hrow := heap_alloc_new w (.cells #[.int .i64 0, .int .i64 0, .int .i64 0, .int .i64 0, .int .i64 0, .int .i64 0, .int .i64 0, .bool false] 24)
  have hq0 : Picked w R n (w.alloc (.cells #[.int .i64 0, .int .i64 0, .int .i64 0, .int .i64 0, .int .i64 0, .int .i64 0, .int .i64 0, .bool false] 24)) := h.self.below ((Below.refl _ w).alloc (Nat.le_refl _) _)
  refine (one_any R n (w.heap.size + 1) 6 6 (fun z => -536870912 ≤ z ∧ z ≤ 536870911) _ _ (by exact hq0.1.below ((Below.refl _ _).alloc (Nat.le_refl _) _)) (by omega) (by exact Lits.new' _ _ _ _ (by simp)) (by
    intro v hv
    simp at hv
    rcases hv with rfl | rfl | rfl | rfl | rfl | rfl
    all_goals exact ⟨_, rfl, by omega⟩) (by omega) (by simp) (by omega) (by omega)).mono ?_
  rintro e w1 ⟨o, ⟨ho0, ho1⟩, rfl, hp1⟩
  have hq1 := (hq0.below ((Below.refl _ _).alloc (Nat.le_refl _) _)).then hp1
  have hr1 := pick_row (heap_alloc_keep hrow _) hp1 (by omega)
  have HR1 := Lib.hid hr1
  clear hrow hr1 hq0 hp1
  go_wp2_with fail
  refine (pick_any R (n + 1) _ _ hq1.1 (by omega)).mono ?_
  rintro e w2 ⟨v, ⟨hv0, hv1⟩, rfl, hp2⟩
  have hq2 := hq1.then hp2
  have hr2 := pick_row HR1.out hp2 (by omega)
  have HR2 := Lib.hid hr2
  clear hq1 hp2 hr2
  by_cases v0 : v = 0
  · subst v0
    obtain ⟨c0, c1, c2, c3, c4, c5, c6, c7⟩ := cells8 HR2.out
    have z0 := frozen_row HR2.out 0
    have z1 := frozen_row HR2.out 1
    have z2 := frozen_row HR2.out 2
    have z3 := frozen_row HR2.out 3
    have z4 := frozen_row HR2.out 4
    have z5 := frozen_row HR2.out 5
    have z6 := frozen_row HR2.out 6
    have z7 := frozen_row HR2.out 7
    go_wp2
    obtain ⟨wf, hwf, hf, hpf⟩ := picked8 HR2.out hq2 hRw (Nat.le_refl _) (.int .i64 0) (.int .i64 0) (.int .i64 0) (.int .i64 0) (.int .i64 0) (.int .i64 0) (.int .i64 0) (.bool false)
    rw [hwf]
    obtain ⟨g0, g1, g2, g3, g4, g5, g6, g7⟩ := cells8 hf
    exact bodyPost_ret (v := .agg #[.int .i64 0, .int .i64 0, .int .i64 0, .int .i64 0, .int .i64 0, .int .i64 0, .int .i64 0, .bool false]) (by simp [results, Try.results45, go_sem, g0, g1, g2, g3, g4, g5, g6, g7]) rfl ⟨0, 0, 0, 0, 0, 0, 0, false, by simp [ptOk, restOf, fitsOf, inB, withB, zer3], rfl, hpf.mono (by omega)⟩
  have b0 : (v == 0) = false := by simp; omega
  by_cases v1 : v = 1
  · subst v1
    go_wp2_with fail
    refine (one_any R (n + 2) w2.heap.size 3 3 (fun z => 0 ≤ z ∧ z ≤ 65535) _ _ (by exact hq2.1.below ((Below.refl _ _).alloc (Nat.le_refl _) _)) (by omega) (by exact Lits.new' _ _ _ _ (by simp)) (by
      intro v hv
      simp at hv
      rcases hv with rfl | rfl | rfl
      all_goals exact ⟨_, rfl, by omega⟩) (by have := hq2.1.lt; omega) (by simp) (by omega) (by omega)).mono ?_
    rintro e w3 ⟨d, ⟨hd0, hd1⟩, rfl, hp⟩
    have hq3 := (hq2.below ((Below.refl _ _).alloc (Nat.le_refl _) _)).then hp
    have hr := pick_row (heap_alloc_keep HR2.out _) hp (by omega)
    have HR3 := Lib.hid hr
    clear hr hp
    go_wp2_with fail
    refine (one_any R (n + 3) w3.heap.size 3 3 (fun z => 1 ≤ z ∧ z ≤ 65535) _ _ (by exact hq3.1.below ((Below.refl _ _).alloc (Nat.le_refl _) _)) (by omega) (by exact Lits.new' _ _ _ _ (by simp)) (by
      intro v hv
      simp at hv
      rcases hv with rfl | rfl | rfl
      all_goals exact ⟨_, rfl, by omega⟩) (by have := hq3.1.lt; omega) (by simp) (by omega) (by omega)).mono ?_
    rintro e w4 ⟨p, ⟨hp0, hp1⟩, rfl, hp⟩
    have hq4 := (hq3.below ((Below.refl _ _).alloc (Nat.le_refl _) _)).then hp
    have hr := pick_row (heap_alloc_keep HR3.out _) hp (by omega)
    have HR4 := Lib.hid hr
    clear hr hp
    obtain ⟨c0, c1, c2, c3, c4, c5, c6, c7⟩ := cells8 HR4.out
    have z0 := frozen_row HR4.out 0
    have z1 := frozen_row HR4.out 1
    have z2 := frozen_row HR4.out 2
    have z3 := frozen_row HR4.out 3
    have z4 := frozen_row HR4.out 4
    have z5 := frozen_row HR4.out 5
    have z6 := frozen_row HR4.out 6
    have z7 := frozen_row HR4.out 7
    go_wp2
    obtain ⟨wf, hwf, hf, hpf⟩ := picked8 HR4.out hq4 hRw (Nat.le_refl _) (.int .i64 1) (.int .i64 o) (.int .i64 d) (.int .i64 p) (.int .i64 0) (.int .i64 0) (.int .i64 0) (.bool false)
    rw [hwf]
    obtain ⟨g0, g1, g2, g3, g4, g5, g6, g7⟩ := cells8 hf
    exact bodyPost_ret (v := .agg #[.int .i64 1, .int .i64 o, .int .i64 d, .int .i64 p, .int .i64 0, .int .i64 0, .int .i64 0, .bool false]) (by simp [results, Try.results45, go_sem, g0, g1, g2, g3, g4, g5, g6, g7]) rfl ⟨1, o, d, p, 0, 0, 0, false, by simp [ptOk, restOf, fitsOf, inB, withB, zer3]; omega, rfl, hpf.mono (by omega)⟩
  have b1 : (v == 1) = false := by simp; omega
  by_cases v2 : v = 2
  · subst v2
    go_wp2_with fail
    refine (pick_any R (n + 2) _ _ hq2.1 (by omega)).mono ?_
    rintro e w3 ⟨z, ⟨hx0, hx1⟩, rfl, hp⟩
    have hz : z ≤ 7 := by omega
    have hq3 := hq2.then hp
    have hr := pick_row HR2.out hp (by omega)
    have HR3 := Lib.hid hr
    clear hr hp hx1
    go_wp2_with fail
    refine (one_any R (n + 3) w3.heap.size 4 4 (fun z => 0 ≤ z ∧ z ≤ 536870911) _ _ (by exact hq3.1.below ((Below.refl _ _).alloc (Nat.le_refl _) _)) (by omega) (by exact Lits.new' _ _ _ _ (by simp)) (by
      intro v hv
      simp at hv
      rcases hv with rfl | rfl | rfl | rfl
      all_goals exact ⟨_, rfl, by omega⟩) (by have := hq3.1.lt; omega) (by simp) (by omega) (by omega)).mono ?_
    rintro e w4 ⟨c, ⟨hc0, hc1⟩, rfl, hp⟩
    have hq4 := (hq3.below ((Below.refl _ _).alloc (Nat.le_refl _) _)).then hp
    have hr := pick_row (heap_alloc_keep HR3.out _) hp (by omega)
    have HR4 := Lib.hid hr
    clear hr hp
    obtain ⟨c0, c1, c2, c3, c4, c5, c6, c7⟩ := cells8 HR4.out
    have z0 := frozen_row HR4.out 0
    have z1 := frozen_row HR4.out 1
    have z2 := frozen_row HR4.out 2
    have z3 := frozen_row HR4.out 3
    have z4 := frozen_row HR4.out 4
    have z5 := frozen_row HR4.out 5
    have z6 := frozen_row HR4.out 6
    have z7 := frozen_row HR4.out 7
    go_wp2
    obtain ⟨wf, hwf, hf, hpf⟩ := picked8 HR4.out hq4 hRw (Nat.le_refl _) (.int .i64 2) (.int .i64 o) (.int .i64 0) (.int .i64 0) (.int .i64 z) (.int .i64 c) (.int .i64 0) (.bool false)
    rw [hwf]
    obtain ⟨g0, g1, g2, g3, g4, g5, g6, g7⟩ := cells8 hf
    exact bodyPost_ret (v := .agg #[.int .i64 2, .int .i64 o, .int .i64 0, .int .i64 0, .int .i64 z, .int .i64 c, .int .i64 0, .bool false]) (by simp [results, Try.results45, go_sem, g0, g1, g2, g3, g4, g5, g6, g7]) rfl ⟨2, o, 0, 0, z, c, 0, false, by simp [ptOk, restOf, fitsOf, inB, withB, zer3]; omega, rfl, hpf.mono (by omega)⟩
  have b2 : (v == 2) = false := by simp; omega
  go_wp2_with fail
  refine (one_any R (n + 2) w2.heap.size 3 3 (fun z => 0 ≤ z ∧ z ≤ 536870911) _ _ (by exact hq2.1.below ((Below.refl _ _).alloc (Nat.le_refl _) _)) (by omega) (by exact Lits.new' _ _ _ _ (by simp)) (by
    intro v hv
    simp at hv
    rcases hv with rfl | rfl | rfl
    all_goals exact ⟨_, rfl, by omega⟩) (by have := hq2.1.lt; omega) (by simp) (by omega) (by omega)).mono ?_
  rintro e w3 ⟨q, ⟨hd0, hd1⟩, rfl, hp⟩
  have hq3 := (hq2.below ((Below.refl _ _).alloc (Nat.le_refl _) _)).then hp
  have hr := pick_row (heap_alloc_keep HR2.out _) hp (by omega)
  have HR3 := Lib.hid hr
  clear hr hp
  go_wp2_with fail
  refine (one_any R (n + 3) w3.heap.size 3 3 (fun z => 0 ≤ z ∧ z ≤ 4294967295) _ _ (by exact hq3.1.below ((Below.refl _ _).alloc (Nat.le_refl _) _)) (by omega) (by exact Lits.new' _ _ _ _ (by simp)) (by
    intro v hv
    simp at hv
    rcases hv with rfl | rfl | rfl
    all_goals exact ⟨_, rfl, by omega⟩) (by have := hq3.1.lt; omega) (by simp) (by omega) (by omega)).mono ?_
  rintro e w4 ⟨g, ⟨hp0, hp1⟩, rfl, hp⟩
  have hq4 := (hq3.below ((Below.refl _ _).alloc (Nat.le_refl _) _)).then hp
  have hr := pick_row (heap_alloc_keep HR3.out _) hp (by omega)
  have HR4 := Lib.hid hr
  clear hr hp
  go_wp2_with fail
  refine (pick_any R (n + 4) _ _ hq4.1 (by omega)).mono ?_
  rintro e w5 ⟨x, ⟨hx0, hx1⟩, rfl, hp⟩
  have hz : x ≤ 1 := by omega
  have hq5 := hq4.then hp
  have hr := pick_row HR4.out hp (by omega)
  have HR5 := Lib.hid hr
  clear hr hp hx1
  by_cases x0 : x = 0
  · subst x0
    obtain ⟨c0, c1, c2, c3, c4, c5, c6, c7⟩ := cells8 HR5.out
    have z0 := frozen_row HR5.out 0
    have z1 := frozen_row HR5.out 1
    have z2 := frozen_row HR5.out 2
    have z3 := frozen_row HR5.out 3
    have z4 := frozen_row HR5.out 4
    have z5 := frozen_row HR5.out 5
    have z6 := frozen_row HR5.out 6
    have z7 := frozen_row HR5.out 7
    go_wp2
    obtain ⟨wf, hwf, hf, hpf⟩ := picked8 HR5.out hq5 hRw (Nat.le_refl _) (.int .i64 3) (.int .i64 q) (.int .i64 0) (.int .i64 0) (.int .i64 0) (.int .i64 0) (.int .i64 g) (.bool true)
    rw [hwf]
    obtain ⟨g0, g1, g2, g3, g4, g5, g6, g7⟩ := cells8 hf
    exact bodyPost_ret (v := .agg #[.int .i64 3, .int .i64 q, .int .i64 0, .int .i64 0, .int .i64 0, .int .i64 0, .int .i64 g, .bool true]) (by simp [results, Try.results45, go_sem, g0, g1, g2, g3, g4, g5, g6, g7]) rfl ⟨3, q, 0, 0, 0, 0, g, true, by simp [ptOk, restOf, fitsOf, inB, withB, zer3]; omega, rfl, hpf.mono (by omega)⟩
  · have bx : (x == 0) = false := by simp; omega
    obtain ⟨c0, c1, c2, c3, c4, c5, c6, c7⟩ := cells8 HR5.out
    have z0 := frozen_row HR5.out 0
    have z1 := frozen_row HR5.out 1
    have z2 := frozen_row HR5.out 2
    have z3 := frozen_row HR5.out 3
    have z4 := frozen_row HR5.out 4
    have z5 := frozen_row HR5.out 5
    have z6 := frozen_row HR5.out 6
    have z7 := frozen_row HR5.out 7
    go_wp2
    obtain ⟨wf, hwf, hf, hpf⟩ := picked8 HR5.out hq5 hRw (Nat.le_refl _) (.int .i64 3) (.int .i64 q) (.int .i64 0) (.int .i64 0) (.int .i64 0) (.int .i64 0) (.int .i64 g) (.bool false)
    rw [hwf]
    obtain ⟨g0, g1, g2, g3, g4, g5, g6, g7⟩ := cells8 hf
    exact bodyPost_ret (v := .agg #[.int .i64 3, .int .i64 q, .int .i64 0, .int .i64 0, .int .i64 0, .int .i64 0, .int .i64 g, .bool false]) (by simp [results, Try.results45, go_sem, g0, g1, g2, g3, g4, g5, g6, g7]) rfl ⟨3, q, 0, 0, 0, 0, g, false, by simp [ptOk, restOf, fitsOf, inB, withB, zer3]; omega, rfl, hpf.mono (by omega)⟩
end Go.Proofs.Ytialmfolgendlab
