/- The specification's l13AnyPoint, DrawPointPut, DrawPointGet: some pointer, some word. -/
import Derived.Test.YtialmfolgendlabDrawPt
import Derived.Test.YtialmfolgendlabL2Put
import Derived.Lib.QuietBelow
namespace Go.Proofs.Ytialmfolgendlab
open Go.RowKit
theorem pt_bd {k o d p s c g : Int} {t : Bool} (h : ptOk k o d p s c g t = true) : (0 ≤ k ∧ k ≤ 3) ∧ (-536870912 ≤ o ∧ o ≤ 536870911) ∧ (0 ≤ d ∧ d < 65536) ∧ (0 ≤ p ∧ p < 65536) ∧ (0 ≤ s ∧ s < 8) ∧ (0 ≤ c ∧ c < 536870912) ∧ (0 ≤ g ∧ g < 4294967296) := by
  rcases pt_parts h with ⟨rfl, rfl, rfl, rfl, rfl, rfl, rfl, rfl⟩ | ⟨rfl, h0, h1, hd0, hd1, hp0, hp1, rfl, rfl, rfl, rfl⟩ | ⟨rfl, h0, h1, rfl, rfl, hz0, hz1, hc0, hc1, rfl, rfl⟩ | ⟨rfl, h0, h1, rfl, rfl, rfl, rfl, hg0, hg1⟩ <;> omega
theorem lits_drew {w : World} {g : Nat} {vs : List Value} (h : Lits w g vs) : Lits w.drew g vs := h
theorem store8' {B : Nat} {w w1 : World} {b : Nat} {T : TypeId} {a0 a1 a2 a3 a4 a5 a6 a7 : Value} (h : w1.heap[b]? = some (.cells #[a0, a1, a2, a3, a4, a5, a6, a7] T (0, 0))) (hb : Below B w w1) (hB : B ≤ b) (v0 v1 v2 v3 v4 v5 v6 v7 : Value) :
    ∃ wf, ((((((((w1.setCell ⟨b, 0, none⟩ v0).setCell ⟨b, 1, none⟩ v1).setCell ⟨b, 2, none⟩ v2).setCell ⟨b, 3, none⟩ v3).setCell ⟨b, 4, none⟩ v4).setCell ⟨b, 5, none⟩ v5).setCell ⟨b, 6, none⟩ v6).setCell ⟨b, 7, none⟩ v7) = wf ∧ wf.heap[b]? = some (.cells #[v0, v1, v2, v3, v4, v5, v6, v7] T (0, 0)) ∧ Below B w wf := by
  have h0 := heap_set (i := 0) v0 h
  have h1 := heap_set (i := 1) v1 h0
  have h2 := heap_set (i := 2) v2 h1
  have h3 := heap_set (i := 3) v3 h2
  have h4 := heap_set (i := 4) v4 h3
  have h5 := heap_set (i := 5) v5 h4
  have h6 := heap_set (i := 6) v6 h5
  have h7 := heap_set (i := 7) v7 h6
  exact ⟨_, rfl, by simpa using h7, ((((((((hb.setCell hB v0).setCell hB v1).setCell hB v2).setCell hB v3).setCell hB v4).setCell hB v5).setCell hB v6).setCell hB v7)⟩
/-- some pointer, ok or not. -/
def AnyP (R n : Nat) (w : World) (e : Ending) (w' : World) : Prop := ∃ (k o d p s c g : Int) (t : Bool), e = .returned (ptv k o d p s c g t) ∧ Picked w R n w'
set_option maxHeartbeats 4000000 in
set_option maxRecDepth 100000 in
theorem l13AnyPoint_any (R n : Nat) (w : World) (h : Rd w R n) (hn : n ≤ 900000) :
    Calls Try.prog 34 #[.pointer (some ⟨R, 0, none⟩)] w (AnyP R (n + 7) w) := by
  have hRw := h.lt
  go_enter Try.func34, Try.ntmps34
  go_wp2_with fail
  have hrow := heap_alloc_new w (.cells #[.int .i64 0, .int .i64 0, .int .i64 0, .int .i64 0, .int .i64 0, .int .i64 0, .int .i64 0, .bool false] 24)
  have hq0 : Picked w R n (w.alloc (.cells #[.int .i64 0, .int .i64 0, .int .i64 0, .int .i64 0, .int .i64 0, .int .i64 0, .int .i64 0, .bool false] 24)) := h.self.below ((Below.refl _ w).alloc (Nat.le_refl _) _)
  refine (l13Point_any R n _ hq0.1 (by omega)).mono ?_
  rintro e w1 ⟨k, o, d, p, s, c, g, t, hok, rfl, hp1⟩
  have hbd := pt_bd hok
  obtain ⟨⟨hk0, hk1⟩, ⟨ho0, ho1⟩, _⟩ := hbd
  have hq1 := hq0.then hp1
  have hr1 := pick_row hrow hp1 (by omega)
  have HR1 := Lib.hid hr1
  clear hrow hr1 hq0 hp1
  unfold ptv
  have hq1' := hq1.below ((Below.refl w1.heap.size w1).alloc (Nat.le_refl _) (.cells #[.int .i64 k, .int .i64 o, .int .i64 d, .int .i64 p, .int .i64 s, .int .i64 c, .int .i64 g, .bool t] 24))
  have hz1 := hq1.2.size
  have HP1 := Lib.hid (heap_alloc_new w1 (.cells #[.int .i64 k, .int .i64 o, .int .i64 d, .int .i64 p, .int .i64 s, .int .i64 c, .int .i64 g, .bool t] 24))
  have HR1' := Lib.hid (heap_alloc_keep HR1.out (.cells #[.int .i64 k, .int .i64 o, .int .i64 d, .int .i64 p, .int .i64 s, .int .i64 c, .int .i64 g, .bool t] 24))
  go_wp2_with fail
  refine (pick_any R (n + 5) _ _ hq1'.1 (by omega)).mono ?_
  rintro e w2 ⟨v, ⟨hv0, hv1⟩, rfl, hp2⟩
  have hq2 := hq1'.then hp2
  have hRw1 : R < w1.heap.size := by omega
  have hb1 : w.heap.size < w1.heap.size := by have := row_lt HR1.out; omega
  have hne : w1.heap.size ≠ w.heap.size := by omega
  have hne' : w.heap.size ≠ w1.heap.size := by omega
  have HP2 := Lib.hid (pick_row HP1.out hp2 (by omega))
  have HR2 := Lib.hid (pick_row HR1'.out hp2 (by omega))
  clear hq1 hq1' hp2 hok
  by_cases v1 : v = 1
  · subst v1
    go_wp2_with fail
    refine (pick_any R (n + 6) _ _ hq2.1 (by omega)).mono ?_
    rintro e w3 ⟨x, ⟨hx0, hx1⟩, rfl, hp3⟩
    have hq3 := hq2.then hp3
    have HP3 := Lib.hid (pick_row HP2.out hp3 (by omega))
    have HR3 := Lib.hid (pick_row HR2.out hp3 (by omega))
    obtain ⟨c0, c1, c2, c3, c4, c5, c6, c7⟩ := cells8 HP3.out
    obtain ⟨y0, y1, y2, y3, y4, y5, y6, y7⟩ := cells8 HR3.out
    have x0 := frozen_row HP3.out 0
    have z0 := frozen_row HR3.out 0
    have z1 := frozen_row HR3.out 1
    have z2 := frozen_row HR3.out 2
    have z3 := frozen_row HR3.out 3
    have z4 := frozen_row HR3.out 4
    have z5 := frozen_row HR3.out 5
    have z6 := frozen_row HR3.out 6
    have z7 := frozen_row HR3.out 7
    go_wp2
    obtain ⟨wf, hwf, hf, hpf⟩ := picked8 (heap_set_far (i := 0) (.int .i64 (x)) hne' HR3.out) (picked_store hq3 hRw (Nat.le_of_lt hb1) 0 (.int .i64 (x))) hRw (Nat.le_refl _) (.int .i64 (x)) (.int .i64 o) (.int .i64 d) (.int .i64 p) (.int .i64 s) (.int .i64 c) (.int .i64 g) (.bool t)
    rw [hwf]
    obtain ⟨g0, g1, g2, g3, g4, g5, g6, g7⟩ := cells8 hf
    exact bodyPost_ret (v := .agg #[.int .i64 (x), .int .i64 o, .int .i64 d, .int .i64 p, .int .i64 s, .int .i64 c, .int .i64 g, .bool t]) (by simp [results, Try.results34, go_sem, g0, g1, g2, g3, g4, g5, g6, g7]) rfl ⟨(x), o, d, p, s, c, g, t, rfl, hpf.mono (by omega)⟩
  have b1 : (v == 1) = false := by simp; omega
  by_cases v2 : v = 2
  · subst v2
    go_wp2_with fail
    refine (one_any R (n + 6) w2.heap.size 3 3 (fun z => 0 ≤ z ∧ z ≤ 65536) _ _ (by exact hq2.1.below ((Below.refl _ _).alloc (Nat.le_refl _) _)) (by omega) (by exact Lits.new' _ _ _ _ (by simp)) (by
      intro v hv
      simp at hv
      rcases hv with rfl | rfl | rfl
      all_goals exact ⟨_, rfl, by omega⟩) (by have := hq2.1.lt; omega) (by simp) (by omega) (by omega)).mono ?_
    rintro e w3 ⟨x, ⟨hx0, hx1⟩, rfl, hp3⟩
    have hq3 := (hq2.below ((Below.refl _ _).alloc (Nat.le_refl _) _)).then hp3
    have HP3 := Lib.hid (pick_row (heap_alloc_keep HP2.out _) hp3 (by omega))
    have HR3 := Lib.hid (pick_row (heap_alloc_keep HR2.out _) hp3 (by omega))
    obtain ⟨c0, c1, c2, c3, c4, c5, c6, c7⟩ := cells8 HP3.out
    obtain ⟨y0, y1, y2, y3, y4, y5, y6, y7⟩ := cells8 HR3.out
    have x0 := frozen_row HP3.out 2
    have z0 := frozen_row HR3.out 0
    have z1 := frozen_row HR3.out 1
    have z2 := frozen_row HR3.out 2
    have z3 := frozen_row HR3.out 3
    have z4 := frozen_row HR3.out 4
    have z5 := frozen_row HR3.out 5
    have z6 := frozen_row HR3.out 6
    have z7 := frozen_row HR3.out 7
    go_wp2
    obtain ⟨wf, hwf, hf, hpf⟩ := picked8 (heap_set_far (i := 2) (.int .i64 (x)) hne' HR3.out) (picked_store hq3 hRw (Nat.le_of_lt hb1) 2 (.int .i64 (x))) hRw (Nat.le_refl _) (.int .i64 k) (.int .i64 o) (.int .i64 (x)) (.int .i64 p) (.int .i64 s) (.int .i64 c) (.int .i64 g) (.bool t)
    rw [hwf]
    obtain ⟨g0, g1, g2, g3, g4, g5, g6, g7⟩ := cells8 hf
    exact bodyPost_ret (v := .agg #[.int .i64 k, .int .i64 o, .int .i64 (x), .int .i64 p, .int .i64 s, .int .i64 c, .int .i64 g, .bool t]) (by simp [results, Try.results34, go_sem, g0, g1, g2, g3, g4, g5, g6, g7]) rfl ⟨k, o, (x), p, s, c, g, t, rfl, hpf.mono (by omega)⟩
  have b2 : (v == 2) = false := by simp; omega
  by_cases v3 : v = 3
  · subst v3
    go_wp2_with fail
    refine (one_any R (n + 6) w2.heap.size 3 3 (fun z => -1 ≤ z ∧ z ≤ 8) _ _ (by exact hq2.1.below ((Below.refl _ _).alloc (Nat.le_refl _) _)) (by omega) (by exact Lits.new' _ _ _ _ (by simp)) (by
      intro v hv
      simp at hv
      rcases hv with rfl | rfl | rfl
      all_goals exact ⟨_, rfl, by omega⟩) (by have := hq2.1.lt; omega) (by simp) (by omega) (by omega)).mono ?_
    rintro e w3 ⟨x, ⟨hx0, hx1⟩, rfl, hp3⟩
    have hq3 := (hq2.below ((Below.refl _ _).alloc (Nat.le_refl _) _)).then hp3
    have HP3 := Lib.hid (pick_row (heap_alloc_keep HP2.out _) hp3 (by omega))
    have HR3 := Lib.hid (pick_row (heap_alloc_keep HR2.out _) hp3 (by omega))
    obtain ⟨c0, c1, c2, c3, c4, c5, c6, c7⟩ := cells8 HP3.out
    obtain ⟨y0, y1, y2, y3, y4, y5, y6, y7⟩ := cells8 HR3.out
    have x0 := frozen_row HP3.out 4
    have z0 := frozen_row HR3.out 0
    have z1 := frozen_row HR3.out 1
    have z2 := frozen_row HR3.out 2
    have z3 := frozen_row HR3.out 3
    have z4 := frozen_row HR3.out 4
    have z5 := frozen_row HR3.out 5
    have z6 := frozen_row HR3.out 6
    have z7 := frozen_row HR3.out 7
    go_wp2
    obtain ⟨wf, hwf, hf, hpf⟩ := picked8 (heap_set_far (i := 4) (.int .i64 (x)) hne' HR3.out) (picked_store hq3 hRw (Nat.le_of_lt hb1) 4 (.int .i64 (x))) hRw (Nat.le_refl _) (.int .i64 k) (.int .i64 o) (.int .i64 d) (.int .i64 p) (.int .i64 (x)) (.int .i64 c) (.int .i64 g) (.bool t)
    rw [hwf]
    obtain ⟨g0, g1, g2, g3, g4, g5, g6, g7⟩ := cells8 hf
    exact bodyPost_ret (v := .agg #[.int .i64 k, .int .i64 o, .int .i64 d, .int .i64 p, .int .i64 (x), .int .i64 c, .int .i64 g, .bool t]) (by simp [results, Try.results34, go_sem, g0, g1, g2, g3, g4, g5, g6, g7]) rfl ⟨k, o, d, p, (x), c, g, t, rfl, hpf.mono (by omega)⟩
  have b3 : (v == 3) = false := by simp; omega
  by_cases v0 : v = 0
  · subst v0
    obtain ⟨c0, c1, c2, c3, c4, c5, c6, c7⟩ := cells8 HP2.out
    have e1 : ∀ x : Int, -1 ≤ x → x ≤ 536870912 → IntKind.i64.wrap (o + x) = o + x := fun x _ _ => by rw [IntKind.wrap_i64]; omega
    have E1 := Lib.hid e1
    clear e1
    have h12 : w1.heap.size < w2.heap.size := row_lt HP2.out
    have h12' : w1.heap.size ≠ w2.heap.size := by omega
    have ca : ∀ L : Obj, (w2.alloc L).cell? ⟨w1.heap.size, 1, none⟩ = some (.int .i64 o) := fun L => (cells8 (heap_alloc_keep HP2.out L)).2.1
    go_wp2_with fail
    go_region_law (go_simp; go_at_call 49; go_must (refine (one_any R (n + 6) w2.heap.size 3 3 (fun z => -1 ≤ z ∧ z ≤ 536870912) _ _ (by exact ((hq2.below ((Below.refl _ _).alloc (Nat.le_refl _) _)).drewN 1).1) (by omega) (by exact lits_drew (Lits.new' _ _ _ _ (by simp))) (by
      intro v hv
      simp at hv
      rcases hv with rfl | rfl | rfl
      all_goals exact ⟨_, rfl, by omega⟩) (by have := hq2.1.lt; omega) (by simp) (by omega) (by omega)).mono ?_); rintro e w3 ⟨x, ⟨hx0, hx1⟩, rfl, hp3⟩; have hq3 := ((hq2.below ((Below.refl _ _).alloc (Nat.le_refl _) _)).drewN 1).then hp3; have HP3 := Lib.hid (pick_row (w := World.drew _) (heap_alloc_keep HP2.out _) hp3 (by omega)); have HR3 := Lib.hid (pick_row (w := World.drew _) (heap_alloc_keep HR2.out _) hp3 (by omega)); have d1 := (cells8 HP3.out).2.1; have x0 := frozen_row HP3.out 1)
    all_goals
      clear c0 c1 c2 c3 c4 c5 c6 c7 x0 d1
      rw [E1.out x hx0 hx1]
      have hr4 : (w3.setCell ⟨w1.heap.size, 1, none⟩ (.int .i64 (o + x))).heap[w1.heap.size]? = some (.cells #[.int .i64 k, .int .i64 (o + x), .int .i64 d, .int .i64 p, .int .i64 s, .int .i64 c, .int .i64 g, .bool t] 24 (0, 0)) := by simpa using heap_set (i := 1) (.int .i64 (o + x)) HP3.out
      have hz4 := heap_set_far (i := 1) (.int .i64 (o + x)) hne' HR3.out
      have hq4 := picked_store hq3 hRw (Nat.le_of_lt hb1) 1 (.int .i64 (o + x))
      generalize w3.setCell ⟨w1.heap.size, 1, none⟩ (.int .i64 (o + x)) = w4 at hr4 hz4 hq4 ⊢
      obtain ⟨c0, c1, c2, c3, c4, c5, c6, c7⟩ := cells8 hr4
      obtain ⟨y0, y1, y2, y3, y4, y5, y6, y7⟩ := cells8 hz4
      have z0 := frozen_row hz4 0
      have z1 := frozen_row hz4 1
      have z2 := frozen_row hz4 2
      have z3 := frozen_row hz4 3
      have z4 := frozen_row hz4 4
      have z5 := frozen_row hz4 5
      have z6 := frozen_row hz4 6
      have z7 := frozen_row hz4 7
      have HZ4 := Lib.hid hz4
      clear hz4 hr4 ca
      go_wp2
      obtain ⟨wf, hwf, hf, hpf⟩ := picked8 HZ4.out hq4 hRw (Nat.le_refl _) (.int .i64 k) (.int .i64 (o + x)) (.int .i64 d) (.int .i64 p) (.int .i64 s) (.int .i64 c) (.int .i64 g) (.bool t)
      rw [hwf]
      obtain ⟨g0, g1, g2, g3, g4, g5, g6, g7⟩ := cells8 hf
      exact bodyPost_ret (v := .agg #[.int .i64 k, .int .i64 (o + x), .int .i64 d, .int .i64 p, .int .i64 s, .int .i64 c, .int .i64 g, .bool t]) (by simp [results, Try.results34, go_sem, g0, g1, g2, g3, g4, g5, g6, g7]) rfl ⟨k, o + x, d, p, s, c, g, t, rfl, hpf.mono (by omega)⟩
  have b0 : (v == 0) = false := by simp; omega
  obtain ⟨c0, c1, c2, c3, c4, c5, c6, c7⟩ := cells8 HP2.out
  obtain ⟨y0, y1, y2, y3, y4, y5, y6, y7⟩ := cells8 HR2.out
  have z0 := frozen_row HR2.out 0
  have z1 := frozen_row HR2.out 1
  have z2 := frozen_row HR2.out 2
  have z3 := frozen_row HR2.out 3
  have z4 := frozen_row HR2.out 4
  have z5 := frozen_row HR2.out 5
  have z6 := frozen_row HR2.out 6
  have z7 := frozen_row HR2.out 7
  go_wp2
  obtain ⟨wf, hwf, hf, hpf⟩ := picked8 HR2.out hq2 hRw (Nat.le_refl _) (.int .i64 k) (.int .i64 o) (.int .i64 d) (.int .i64 p) (.int .i64 s) (.int .i64 c) (.int .i64 g) (.bool t)
  rw [hwf]
  obtain ⟨g0, g1, g2, g3, g4, g5, g6, g7⟩ := cells8 hf
  exact bodyPost_ret (v := .agg #[.int .i64 k, .int .i64 o, .int .i64 d, .int .i64 p, .int .i64 s, .int .i64 c, .int .i64 g, .bool t]) (by simp [results, Try.results34, go_sem, g0, g1, g2, g3, g4, g5, g6, g7]) rfl ⟨k, o, d, p, s, c, g, t, rfl, hpf.mono (by omega)⟩
def DrawPtP (w : World) (e : Ending) (w' : World) : Prop := ∃ (k o d p s c g : Int) (t : Bool), e = .returned (ptv k o d p s c g t) ∧ Below w.heap.size w w'
set_option maxHeartbeats 2000000 in
set_option maxRecDepth 100000 in
theorem drawPointPut_any (a : Option Addr) (len cap : Nat) (w : World) (h : Arg w a len cap) :
    Calls Try.prog 12 #[.slice a len cap] w (DrawPtP w) := by
  go_enter Try.func12, Try.ntmps12
  go_wp2_with fail
  have hb0 : Below w.heap.size w (w.alloc (.cells #[.int .i64 0, .int .i64 0, .int .i64 0, .int .i64 0, .int .i64 0, .int .i64 0, .int .i64 0, .bool false] 24)) := (Below.refl _ w).alloc (Nat.le_refl _) _
  have hrow := heap_alloc_new w (.cells #[.int .i64 0, .int .i64 0, .int .i64 0, .int .i64 0, .int .i64 0, .int .i64 0, .int .i64 0, .bool false] 24)
  have h' := h.below hb0
  refine (l1Open_any a len cap _ h'.1 h'.2.1 h'.2.2).mono ?_
  rintro e w1 ⟨R, rfl, hR, hrd, hb1⟩
  have hR' : w.heap.size < R := by have := hR; simp at this; omega
  have hr1 := (hb1.block _ (by simp)).trans hrow
  go_wp2_with fail
  refine (l13AnyPoint_any R 0 _ hrd (by omega)).mono ?_
  rintro e w2 ⟨k, o, d, p, s, c, g, t, rfl, hp2⟩
  have HR2 := Lib.hid (pick_row hr1 hp2 (by omega))
  have HB2 : Hid (Below w.heap.size w w2) := Lib.hid (opened_below (Nat.le_of_lt hR') (hb0.trans (hb1.mono (by simp))) hp2)
  unfold ptv
  obtain ⟨c0, c1, c2, c3, c4, c5, c6, c7⟩ := cells8 HR2.out
  have z0 := frozen_row HR2.out 0
  have z1 := frozen_row HR2.out 1
  have z2 := frozen_row HR2.out 2
  have z3 := frozen_row HR2.out 3
  have z4 := frozen_row HR2.out 4
  have z5 := frozen_row HR2.out 5
  have z6 := frozen_row HR2.out 6
  have z7 := frozen_row HR2.out 7
  clear hr1 hrow
  go_wp2
  obtain ⟨wf, hwf, hf, hbf⟩ := store8' HR2.out HB2.out (Nat.le_refl _) (.int .i64 k) (.int .i64 o) (.int .i64 d) (.int .i64 p) (.int .i64 s) (.int .i64 c) (.int .i64 g) (.bool t)
  rw [hwf]
  obtain ⟨g0, g1, g2, g3, g4, g5, g6, g7⟩ := cells8 hf
  exact bodyPost_ret (v := .agg #[.int .i64 k, .int .i64 o, .int .i64 d, .int .i64 p, .int .i64 s, .int .i64 c, .int .i64 g, .bool t]) (by simp [results, Try.results12, go_sem, g0, g1, g2, g3, g4, g5, g6, g7]) rfl ⟨k, o, d, p, s, c, g, t, rfl, hbf⟩
end Go.Proofs.Ytialmfolgendlab
