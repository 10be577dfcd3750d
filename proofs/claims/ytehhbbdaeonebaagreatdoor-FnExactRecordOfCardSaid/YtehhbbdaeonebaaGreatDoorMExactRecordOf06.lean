/- Texts of the proof of the law FnExactRecordOf, side by side: part 6. -/
import Derived.Test.YtehhbbdaeonebaaGreatDoorMExactRecordOf05
set_option maxHeartbeats 8000000
set_option maxRecDepth 100000
namespace Go.Proofs.YtehhbbdaeonebaaGreatDoor
open Go.RowKit
@[local go_sem] theorem run_store_fn' (P : Program) (w : World) (a : Addr) (m : Mode) (fn : Fn) (x y : Array Value) : (store a (.func fn x y) m).run P w = stored P w a (.func fn x y) m := run_store P w a _ m rfl
@[local go_sem] theorem run_store_nilfn (P : Program) (w : World) (a : Addr) (m : Mode) : (store a .nilFunc m).run P w = stored P w a .nilFunc m := run_store P w a _ m rfl
def fnV (f : FuncId) : Value := .func (.func f) #[] #[]
def NumK (k : Int) (w w' : World) (f g : Value) : Prop := ∃ b, f = nK1 b ∧ g = nK2 b ∧ w.heap.size ≤ b ∧ w'.heap[b]? = some (.cells #[.int .i64 k] 3 (0, 0))
def KeepP (z : Int) (w : World) (e : Ending) (w' : World) : Prop :=
 ∃ f g, e = .returned (.agg #[f, g]) ∧ Below w.heap.size w w' ∧ ((z = 1 ∧ f = fnV 84 ∧ g = fnV 85) ∨ (z = 6 ∧ f = fnV 87 ∧ g = fnV 88) ∨ (z = 2 ∧ NumK 1 w w' f g) ∨ (z = 3 ∧ NumK 2 w w' f g) ∨ (z = 4 ∧ NumK 4 w w' f g) ∨ (z = 5 ∧ NumK 8 w w' f g))
abbrev keepsT : TypeId := 132
theorem keep_fin {w W : World} {v0 v1 : Value} (hz : W.heap[w.heap.size]? = some (.cells #[.nilFunc, .nilFunc] keepT (0, 0))) (hb : Below w.heap.size w W) :
 ∃ wf, ((W.setCell ⟨w.heap.size, 0, none⟩ v0).setCell ⟨w.heap.size, 1, none⟩ v1) = wf ∧ wf.heap[w.heap.size]? = some (.cells #[v0, v1] keepT (0, 0)) ∧ Below w.heap.size w wf ∧ ∀ k, k ≠ w.heap.size → wf.heap[k]? = W.heap[k]? := by
 refine ⟨_, rfl, row_setN (row_setN hz 0 _) 1 _, (hb.setCell (p := ⟨w.heap.size, 0, none⟩) (Nat.le_refl _) _).setCell (p := ⟨w.heap.size, 1, none⟩) (Nat.le_refl _) _, fun k hk => ?_⟩
 simp [World.setCell, Array.getElem?_modify, hk, Ne.symm hk]
theorem keeperOf_1 (w : World) :
 Calls Tryz.prog 65 #[.int .i64 1] w (KeepP 1 w) := by
 go_enter Tryz.func65, Tryz.ntmps65
 go_wp2_with fail
 have hax : (w.alloc (.cells #[.nilFunc, .nilFunc] keepT)).heap.size = w.heap.size + 1 := by simp
 refine (numKeeper_any 1 _).mono ?_
 rintro e w1 ⟨rfl, hx1, hb1⟩
 rw [hax] at hx1 hb1
 go_wp2_with fail
 refine (numKeeper_any 2 _).mono ?_
 rintro e w2 ⟨rfl, hx2, hb2⟩
 go_wp2_with fail
 refine (numKeeper_any 4 _).mono ?_
 rintro e w3 ⟨rfl, hx3, hb3⟩
 go_wp2_with fail
 refine (numKeeper_any 8 _).mono ?_
 rintro e w4 ⟨rfl, hx4, hb4⟩
 have s1 := hb1.size
 have s2 := hb2.size
 have s3 := hb3.size
 have s4 := hb4.size
 rw [hax] at s1
 have hr4 := (hb4.block w.heap.size (by omega)).trans ((hb3.block w.heap.size (by omega)).trans ((hb2.block w.heap.size (by omega)).trans ((hb1.block w.heap.size (by omega)).trans (heap_alloc_new w (.cells #[.nilFunc, .nilFunc] keepT)))))
 have hb : Below w.heap.size w w4 := ((((Below.refl _ w).alloc (Nat.le_refl _) _).trans (hb1.mono (by omega))).trans (hb2.mono (by omega))).trans ((hb3.mono (by omega)).trans (hb4.mono (by omega)))
 have y1 := (hb4.block (w.heap.size + 1) (by have := row_lt hx1; omega)).trans ((hb3.block (w.heap.size + 1) (by have := row_lt hx1; omega)).trans ((hb2.block _ (row_lt hx1)).trans hx1))
 have y2 := (hb4.block w1.heap.size (by have := row_lt hx2; omega)).trans ((hb3.block _ (row_lt hx2)).trans hx2)
 have y3 := (hb4.block _ (row_lt hx3)).trans hx3
 have hr5 := (heap_alloc_keep hr4 (.cells #[.nilFunc, .nilFunc, fnV 84, fnV 85, nK1 (w.heap.size + 1), nK2 (w.heap.size + 1), nK1 w1.heap.size, nK2 w1.heap.size, nK1 w2.heap.size, nK2 w2.heap.size, nK1 w3.heap.size, nK2 w3.heap.size, fnV 87, fnV 88] keepsT))
 have hb5 := hb.alloc hb.size (.cells #[.nilFunc, .nilFunc, fnV 84, fnV 85, nK1 (w.heap.size + 1), nK2 (w.heap.size + 1), nK1 w1.heap.size, nK2 w1.heap.size, nK1 w2.heap.size, nK2 w2.heap.size, nK1 w3.heap.size, nK2 w3.heap.size, fnV 87, fnV 88] keepsT)
 have HY := Lib.hid (And.intro (heap_alloc_keep y1 (.cells #[.nilFunc, .nilFunc, fnV 84, fnV 85, nK1 (w.heap.size + 1), nK2 (w.heap.size + 1), nK1 w1.heap.size, nK2 w1.heap.size, nK1 w2.heap.size, nK2 w2.heap.size, nK1 w3.heap.size, nK2 w3.heap.size, fnV 87, fnV 88] keepsT)) (And.intro (heap_alloc_keep y2 (.cells #[.nilFunc, .nilFunc, fnV 84, fnV 85, nK1 (w.heap.size + 1), nK2 (w.heap.size + 1), nK1 w1.heap.size, nK2 w1.heap.size, nK1 w2.heap.size, nK2 w2.heap.size, nK1 w3.heap.size, nK2 w3.heap.size, fnV 87, fnV 88] keepsT)) (And.intro (heap_alloc_keep y3 (.cells #[.nilFunc, .nilFunc, fnV 84, fnV 85, nK1 (w.heap.size + 1), nK2 (w.heap.size + 1), nK1 w1.heap.size, nK2 w1.heap.size, nK1 w2.heap.size, nK2 w2.heap.size, nK1 w3.heap.size, nK2 w3.heap.size, fnV 87, fnV 88] keepsT)) (heap_alloc_keep hx4 (.cells #[.nilFunc, .nilFunc, fnV 84, fnV 85, nK1 (w.heap.size + 1), nK2 (w.heap.size + 1), nK1 w1.heap.size, nK2 w1.heap.size, nK1 w2.heap.size, nK2 w2.heap.size, nK1 w3.heap.size, nK2 w3.heap.size, fnV 87, fnV 88] keepsT)))))
 have HS := Lib.hid (And.intro s1 (And.intro s2 s3))
 have HR5 := Lib.hid hr5
 have HB5 := Lib.hid hb5
 obtain ⟨z0, z1⟩ := cells2 hr5
 have zf := row_free hr5
 clear hr4 hb hb1 hb2 hb3 hb4 hx1 hx2 hx3 hx4 y1 y2 y3 s1 s2 s3 s4 hax hr5 hb5
 unfold nK1 nK2 fnV at z0 z1 zf HR5 HB5 HY
 unfold nK1 nK2
 go_wp2_with fail
 clear z0 z1 zf
 generalize w4.alloc (.cells _ keepsT) = W5 at *
 obtain ⟨wf, hwf, hrw, hbf, hkf⟩ := keep_fin (v0 := fnV 84) (v1 := fnV 85) HR5.out HB5.out
 simp only [nK1, nK2, fnV] at hwf
 rw [hwf]
 obtain ⟨e0, e1⟩ := cells2 hrw
 refine bodyPost_ret (v := .agg #[fnV 84, fnV 85]) (by simp [results, Tryz.results65, go_sem, e0, e1]) rfl ⟨_, _, rfl, hbf, ?_⟩
 exact .inl ⟨rfl, rfl, rfl⟩
theorem keeperOf_2 (w : World) :
 Calls Tryz.prog 65 #[.int .i64 2] w (KeepP 2 w) := by
 go_enter Tryz.func65, Tryz.ntmps65
 go_wp2_with fail
 have hax : (w.alloc (.cells #[.nilFunc, .nilFunc] keepT)).heap.size = w.heap.size + 1 := by simp
 refine (numKeeper_any 1 _).mono ?_
 rintro e w1 ⟨rfl, hx1, hb1⟩
 rw [hax] at hx1 hb1
 go_wp2_with fail
 refine (numKeeper_any 2 _).mono ?_
 rintro e w2 ⟨rfl, hx2, hb2⟩
 go_wp2_with fail
 refine (numKeeper_any 4 _).mono ?_
 rintro e w3 ⟨rfl, hx3, hb3⟩
 go_wp2_with fail
 refine (numKeeper_any 8 _).mono ?_
 rintro e w4 ⟨rfl, hx4, hb4⟩
 have s1 := hb1.size
 have s2 := hb2.size
 have s3 := hb3.size
 have s4 := hb4.size
 rw [hax] at s1
 have hr4 := (hb4.block w.heap.size (by omega)).trans ((hb3.block w.heap.size (by omega)).trans ((hb2.block w.heap.size (by omega)).trans ((hb1.block w.heap.size (by omega)).trans (heap_alloc_new w (.cells #[.nilFunc, .nilFunc] keepT)))))
 have hb : Below w.heap.size w w4 := ((((Below.refl _ w).alloc (Nat.le_refl _) _).trans (hb1.mono (by omega))).trans (hb2.mono (by omega))).trans ((hb3.mono (by omega)).trans (hb4.mono (by omega)))
 have y1 := (hb4.block (w.heap.size + 1) (by have := row_lt hx1; omega)).trans ((hb3.block (w.heap.size + 1) (by have := row_lt hx1; omega)).trans ((hb2.block _ (row_lt hx1)).trans hx1))
 have y2 := (hb4.block w1.heap.size (by have := row_lt hx2; omega)).trans ((hb3.block _ (row_lt hx2)).trans hx2)
 have y3 := (hb4.block _ (row_lt hx3)).trans hx3
 have hr5 := (heap_alloc_keep hr4 (.cells #[.nilFunc, .nilFunc, fnV 84, fnV 85, nK1 (w.heap.size + 1), nK2 (w.heap.size + 1), nK1 w1.heap.size, nK2 w1.heap.size, nK1 w2.heap.size, nK2 w2.heap.size, nK1 w3.heap.size, nK2 w3.heap.size, fnV 87, fnV 88] keepsT))
 have hb5 := hb.alloc hb.size (.cells #[.nilFunc, .nilFunc, fnV 84, fnV 85, nK1 (w.heap.size + 1), nK2 (w.heap.size + 1), nK1 w1.heap.size, nK2 w1.heap.size, nK1 w2.heap.size, nK2 w2.heap.size, nK1 w3.heap.size, nK2 w3.heap.size, fnV 87, fnV 88] keepsT)
 have HY := Lib.hid (And.intro (heap_alloc_keep y1 (.cells #[.nilFunc, .nilFunc, fnV 84, fnV 85, nK1 (w.heap.size + 1), nK2 (w.heap.size + 1), nK1 w1.heap.size, nK2 w1.heap.size, nK1 w2.heap.size, nK2 w2.heap.size, nK1 w3.heap.size, nK2 w3.heap.size, fnV 87, fnV 88] keepsT)) (And.intro (heap_alloc_keep y2 (.cells #[.nilFunc, .nilFunc, fnV 84, fnV 85, nK1 (w.heap.size + 1), nK2 (w.heap.size + 1), nK1 w1.heap.size, nK2 w1.heap.size, nK1 w2.heap.size, nK2 w2.heap.size, nK1 w3.heap.size, nK2 w3.heap.size, fnV 87, fnV 88] keepsT)) (And.intro (heap_alloc_keep y3 (.cells #[.nilFunc, .nilFunc, fnV 84, fnV 85, nK1 (w.heap.size + 1), nK2 (w.heap.size + 1), nK1 w1.heap.size, nK2 w1.heap.size, nK1 w2.heap.size, nK2 w2.heap.size, nK1 w3.heap.size, nK2 w3.heap.size, fnV 87, fnV 88] keepsT)) (heap_alloc_keep hx4 (.cells #[.nilFunc, .nilFunc, fnV 84, fnV 85, nK1 (w.heap.size + 1), nK2 (w.heap.size + 1), nK1 w1.heap.size, nK2 w1.heap.size, nK1 w2.heap.size, nK2 w2.heap.size, nK1 w3.heap.size, nK2 w3.heap.size, fnV 87, fnV 88] keepsT)))))
 have HS := Lib.hid (And.intro s1 (And.intro s2 s3))
 have HR5 := Lib.hid hr5
 have HB5 := Lib.hid hb5
 obtain ⟨z0, z1⟩ := cells2 hr5
 have zf := row_free hr5
 clear hr4 hb hb1 hb2 hb3 hb4 hx1 hx2 hx3 hx4 y1 y2 y3 s1 s2 s3 s4 hax hr5 hb5
 unfold nK1 nK2 fnV at z0 z1 zf HR5 HB5 HY
 unfold nK1 nK2
 go_wp2_with fail
 clear z0 z1 zf
 generalize w4.alloc (.cells _ keepsT) = W5 at *
 obtain ⟨wf, hwf, hrw, hbf, hkf⟩ := keep_fin (v0 := nK1 (w.heap.size + 1)) (v1 := nK2 (w.heap.size + 1)) HR5.out HB5.out
 simp only [nK1, nK2, fnV] at hwf
 rw [hwf]
 obtain ⟨e0, e1⟩ := cells2 hrw
 refine bodyPost_ret (v := .agg #[nK1 (w.heap.size + 1), nK2 (w.heap.size + 1)]) (by simp [results, Tryz.results65, go_sem, e0, e1]) rfl ⟨_, _, rfl, hbf, ?_⟩
 exact .inr (.inr (.inl ⟨rfl, _, rfl, rfl, by have := HS.out; omega, (hkf _ (by have := HS.out; omega)).trans HY.out.1⟩))
theorem keeperOf_3 (w : World) :
 Calls Tryz.prog 65 #[.int .i64 3] w (KeepP 3 w) := by
 go_enter Tryz.func65, Tryz.ntmps65
 go_wp2_with fail
 have hax : (w.alloc (.cells #[.nilFunc, .nilFunc] keepT)).heap.size = w.heap.size + 1 := by simp
 refine (numKeeper_any 1 _).mono ?_
 rintro e w1 ⟨rfl, hx1, hb1⟩
 rw [hax] at hx1 hb1
 go_wp2_with fail
 refine (numKeeper_any 2 _).mono ?_
 rintro e w2 ⟨rfl, hx2, hb2⟩
 go_wp2_with fail
 refine (numKeeper_any 4 _).mono ?_
 rintro e w3 ⟨rfl, hx3, hb3⟩
 go_wp2_with fail
 refine (numKeeper_any 8 _).mono ?_
 rintro e w4 ⟨rfl, hx4, hb4⟩
 have s1 := hb1.size
 have s2 := hb2.size
 have s3 := hb3.size
 have s4 := hb4.size
 rw [hax] at s1
 have hr4 := (hb4.block w.heap.size (by omega)).trans ((hb3.block w.heap.size (by omega)).trans ((hb2.block w.heap.size (by omega)).trans ((hb1.block w.heap.size (by omega)).trans (heap_alloc_new w (.cells #[.nilFunc, .nilFunc] keepT)))))
 have hb : Below w.heap.size w w4 := ((((Below.refl _ w).alloc (Nat.le_refl _) _).trans (hb1.mono (by omega))).trans (hb2.mono (by omega))).trans ((hb3.mono (by omega)).trans (hb4.mono (by omega)))
 have y1 := (hb4.block (w.heap.size + 1) (by have := row_lt hx1; omega)).trans ((hb3.block (w.heap.size + 1) (by have := row_lt hx1; omega)).trans ((hb2.block _ (row_lt hx1)).trans hx1))
 have y2 := (hb4.block w1.heap.size (by have := row_lt hx2; omega)).trans ((hb3.block _ (row_lt hx2)).trans hx2)
 have y3 := (hb4.block _ (row_lt hx3)).trans hx3
 have hr5 := (heap_alloc_keep hr4 (.cells #[.nilFunc, .nilFunc, fnV 84, fnV 85, nK1 (w.heap.size + 1), nK2 (w.heap.size + 1), nK1 w1.heap.size, nK2 w1.heap.size, nK1 w2.heap.size, nK2 w2.heap.size, nK1 w3.heap.size, nK2 w3.heap.size, fnV 87, fnV 88] keepsT))
 have hb5 := hb.alloc hb.size (.cells #[.nilFunc, .nilFunc, fnV 84, fnV 85, nK1 (w.heap.size + 1), nK2 (w.heap.size + 1), nK1 w1.heap.size, nK2 w1.heap.size, nK1 w2.heap.size, nK2 w2.heap.size, nK1 w3.heap.size, nK2 w3.heap.size, fnV 87, fnV 88] keepsT)
 have HY := Lib.hid (And.intro (heap_alloc_keep y1 (.cells #[.nilFunc, .nilFunc, fnV 84, fnV 85, nK1 (w.heap.size + 1), nK2 (w.heap.size + 1), nK1 w1.heap.size, nK2 w1.heap.size, nK1 w2.heap.size, nK2 w2.heap.size, nK1 w3.heap.size, nK2 w3.heap.size, fnV 87, fnV 88] keepsT)) (And.intro (heap_alloc_keep y2 (.cells #[.nilFunc, .nilFunc, fnV 84, fnV 85, nK1 (w.heap.size + 1), nK2 (w.heap.size + 1), nK1 w1.heap.size, nK2 w1.heap.size, nK1 w2.heap.size, nK2 w2.heap.size, nK1 w3.heap.size, nK2 w3.heap.size, fnV 87, fnV 88] keepsT)) (And.intro (heap_alloc_keep y3 (.cells #[.nilFunc, .nilFunc, fnV 84, fnV 85, nK1 (w.heap.size + 1), nK2 (w.heap.size + 1), nK1 w1.heap.size, nK2 w1.heap.size, nK1 w2.heap.size, nK2 w2.heap.size, nK1 w3.heap.size, nK2 w3.heap.size, fnV 87, fnV 88] keepsT)) (heap_alloc_keep hx4 (.cells #[.nilFunc, .nilFunc, fnV 84, fnV 85, nK1 (w.heap.size + 1), nK2 (w.heap.size + 1), nK1 w1.heap.size, nK2 w1.heap.size, nK1 w2.heap.size, nK2 w2.heap.size, nK1 w3.heap.size, nK2 w3.heap.size, fnV 87, fnV 88] keepsT)))))
 have HS := Lib.hid (And.intro s1 (And.intro s2 s3))
 have HR5 := Lib.hid hr5
 have HB5 := Lib.hid hb5
 obtain ⟨z0, z1⟩ := cells2 hr5
 have zf := row_free hr5
 clear hr4 hb hb1 hb2 hb3 hb4 hx1 hx2 hx3 hx4 y1 y2 y3 s1 s2 s3 s4 hax hr5 hb5
 unfold nK1 nK2 fnV at z0 z1 zf HR5 HB5 HY
 unfold nK1 nK2
 go_wp2_with fail
 clear z0 z1 zf
 generalize w4.alloc (.cells _ keepsT) = W5 at *
 obtain ⟨wf, hwf, hrw, hbf, hkf⟩ := keep_fin (v0 := nK1 w1.heap.size) (v1 := nK2 w1.heap.size) HR5.out HB5.out
 simp only [nK1, nK2, fnV] at hwf
 rw [hwf]
 obtain ⟨e0, e1⟩ := cells2 hrw
 refine bodyPost_ret (v := .agg #[nK1 w1.heap.size, nK2 w1.heap.size]) (by simp [results, Tryz.results65, go_sem, e0, e1]) rfl ⟨_, _, rfl, hbf, ?_⟩
 exact .inr (.inr (.inr (.inl ⟨rfl, _, rfl, rfl, by have := HS.out; omega, (hkf _ (by have := HS.out; omega)).trans HY.out.2.1⟩)))
theorem keeperOf_4 (w : World) :
 Calls Tryz.prog 65 #[.int .i64 4] w (KeepP 4 w) := by
 go_enter Tryz.func65, Tryz.ntmps65
 go_wp2_with fail
 have hax : (w.alloc (.cells #[.nilFunc, .nilFunc] keepT)).heap.size = w.heap.size + 1 := by simp
 refine (numKeeper_any 1 _).mono ?_
 rintro e w1 ⟨rfl, hx1, hb1⟩
 rw [hax] at hx1 hb1
 go_wp2_with fail
 refine (numKeeper_any 2 _).mono ?_
 rintro e w2 ⟨rfl, hx2, hb2⟩
 go_wp2_with fail
 refine (numKeeper_any 4 _).mono ?_
 rintro e w3 ⟨rfl, hx3, hb3⟩
 go_wp2_with fail
 refine (numKeeper_any 8 _).mono ?_
 rintro e w4 ⟨rfl, hx4, hb4⟩
 have s1 := hb1.size
 have s2 := hb2.size
 have s3 := hb3.size
 have s4 := hb4.size
 rw [hax] at s1
 have hr4 := (hb4.block w.heap.size (by omega)).trans ((hb3.block w.heap.size (by omega)).trans ((hb2.block w.heap.size (by omega)).trans ((hb1.block w.heap.size (by omega)).trans (heap_alloc_new w (.cells #[.nilFunc, .nilFunc] keepT)))))
 have hb : Below w.heap.size w w4 := ((((Below.refl _ w).alloc (Nat.le_refl _) _).trans (hb1.mono (by omega))).trans (hb2.mono (by omega))).trans ((hb3.mono (by omega)).trans (hb4.mono (by omega)))
 have y1 := (hb4.block (w.heap.size + 1) (by have := row_lt hx1; omega)).trans ((hb3.block (w.heap.size + 1) (by have := row_lt hx1; omega)).trans ((hb2.block _ (row_lt hx1)).trans hx1))
 have y2 := (hb4.block w1.heap.size (by have := row_lt hx2; omega)).trans ((hb3.block _ (row_lt hx2)).trans hx2)
 have y3 := (hb4.block _ (row_lt hx3)).trans hx3
 have hr5 := (heap_alloc_keep hr4 (.cells #[.nilFunc, .nilFunc, fnV 84, fnV 85, nK1 (w.heap.size + 1), nK2 (w.heap.size + 1), nK1 w1.heap.size, nK2 w1.heap.size, nK1 w2.heap.size, nK2 w2.heap.size, nK1 w3.heap.size, nK2 w3.heap.size, fnV 87, fnV 88] keepsT))
 have hb5 := hb.alloc hb.size (.cells #[.nilFunc, .nilFunc, fnV 84, fnV 85, nK1 (w.heap.size + 1), nK2 (w.heap.size + 1), nK1 w1.heap.size, nK2 w1.heap.size, nK1 w2.heap.size, nK2 w2.heap.size, nK1 w3.heap.size, nK2 w3.heap.size, fnV 87, fnV 88] keepsT)
 have HY := Lib.hid (And.intro (heap_alloc_keep y1 (.cells #[.nilFunc, .nilFunc, fnV 84, fnV 85, nK1 (w.heap.size + 1), nK2 (w.heap.size + 1), nK1 w1.heap.size, nK2 w1.heap.size, nK1 w2.heap.size, nK2 w2.heap.size, nK1 w3.heap.size, nK2 w3.heap.size, fnV 87, fnV 88] keepsT)) (And.intro (heap_alloc_keep y2 (.cells #[.nilFunc, .nilFunc, fnV 84, fnV 85, nK1 (w.heap.size + 1), nK2 (w.heap.size + 1), nK1 w1.heap.size, nK2 w1.heap.size, nK1 w2.heap.size, nK2 w2.heap.size, nK1 w3.heap.size, nK2 w3.heap.size, fnV 87, fnV 88] keepsT)) (And.intro (heap_alloc_keep y3 (.cells #[.nilFunc, .nilFunc, fnV 84, fnV 85, nK1 (w.heap.size + 1), nK2 (w.heap.size + 1), nK1 w1.heap.size, nK2 w1.heap.size, nK1 w2.heap.size, nK2 w2.heap.size, nK1 w3.heap.size, nK2 w3.heap.size, fnV 87, fnV 88] keepsT)) (heap_alloc_keep hx4 (.cells #[.nilFunc, .nilFunc, fnV 84, fnV 85, nK1 (w.heap.size + 1), nK2 (w.heap.size + 1), nK1 w1.heap.size, nK2 w1.heap.size, nK1 w2.heap.size, nK2 w2.heap.size, nK1 w3.heap.size, nK2 w3.heap.size, fnV 87, fnV 88] keepsT)))))
 have HS := Lib.hid (And.intro s1 (And.intro s2 s3))
 have HR5 := Lib.hid hr5
 have HB5 := Lib.hid hb5
 obtain ⟨z0, z1⟩ := cells2 hr5
 have zf := row_free hr5
 clear hr4 hb hb1 hb2 hb3 hb4 hx1 hx2 hx3 hx4 y1 y2 y3 s1 s2 s3 s4 hax hr5 hb5
 unfold nK1 nK2 fnV at z0 z1 zf HR5 HB5 HY
 unfold nK1 nK2
 go_wp2_with fail
 clear z0 z1 zf
 generalize w4.alloc (.cells _ keepsT) = W5 at *
 obtain ⟨wf, hwf, hrw, hbf, hkf⟩ := keep_fin (v0 := nK1 w2.heap.size) (v1 := nK2 w2.heap.size) HR5.out HB5.out
 simp only [nK1, nK2, fnV] at hwf
 rw [hwf]
 obtain ⟨e0, e1⟩ := cells2 hrw
 refine bodyPost_ret (v := .agg #[nK1 w2.heap.size, nK2 w2.heap.size]) (by simp [results, Tryz.results65, go_sem, e0, e1]) rfl ⟨_, _, rfl, hbf, ?_⟩
 exact .inr (.inr (.inr (.inr (.inl ⟨rfl, _, rfl, rfl, by have := HS.out; omega, (hkf _ (by have := HS.out; omega)).trans HY.out.2.2.1⟩))))
theorem keeperOf_5 (w : World) :
 Calls Tryz.prog 65 #[.int .i64 5] w (KeepP 5 w) := by
 go_enter Tryz.func65, Tryz.ntmps65
 go_wp2_with fail
 have hax : (w.alloc (.cells #[.nilFunc, .nilFunc] keepT)).heap.size = w.heap.size + 1 := by simp
 refine (numKeeper_any 1 _).mono ?_
 rintro e w1 ⟨rfl, hx1, hb1⟩
 rw [hax] at hx1 hb1
 go_wp2_with fail
 refine (numKeeper_any 2 _).mono ?_
 rintro e w2 ⟨rfl, hx2, hb2⟩
 go_wp2_with fail
 refine (numKeeper_any 4 _).mono ?_
 rintro e w3 ⟨rfl, hx3, hb3⟩
 go_wp2_with fail
 refine (numKeeper_any 8 _).mono ?_
 rintro e w4 ⟨rfl, hx4, hb4⟩
 have s1 := hb1.size
 have s2 := hb2.size
 have s3 := hb3.size
 have s4 := hb4.size
 rw [hax] at s1
 have hr4 := (hb4.block w.heap.size (by omega)).trans ((hb3.block w.heap.size (by omega)).trans ((hb2.block w.heap.size (by omega)).trans ((hb1.block w.heap.size (by omega)).trans (heap_alloc_new w (.cells #[.nilFunc, .nilFunc] keepT)))))
 have hb : Below w.heap.size w w4 := ((((Below.refl _ w).alloc (Nat.le_refl _) _).trans (hb1.mono (by omega))).trans (hb2.mono (by omega))).trans ((hb3.mono (by omega)).trans (hb4.mono (by omega)))
 have y1 := (hb4.block (w.heap.size + 1) (by have := row_lt hx1; omega)).trans ((hb3.block (w.heap.size + 1) (by have := row_lt hx1; omega)).trans ((hb2.block _ (row_lt hx1)).trans hx1))
 have y2 := (hb4.block w1.heap.size (by have := row_lt hx2; omega)).trans ((hb3.block _ (row_lt hx2)).trans hx2)
 have y3 := (hb4.block _ (row_lt hx3)).trans hx3
 have hr5 := (heap_alloc_keep hr4 (.cells #[.nilFunc, .nilFunc, fnV 84, fnV 85, nK1 (w.heap.size + 1), nK2 (w.heap.size + 1), nK1 w1.heap.size, nK2 w1.heap.size, nK1 w2.heap.size, nK2 w2.heap.size, nK1 w3.heap.size, nK2 w3.heap.size, fnV 87, fnV 88] keepsT))
 have hb5 := hb.alloc hb.size (.cells #[.nilFunc, .nilFunc, fnV 84, fnV 85, nK1 (w.heap.size + 1), nK2 (w.heap.size + 1), nK1 w1.heap.size, nK2 w1.heap.size, nK1 w2.heap.size, nK2 w2.heap.size, nK1 w3.heap.size, nK2 w3.heap.size, fnV 87, fnV 88] keepsT)
 have HY := Lib.hid (And.intro (heap_alloc_keep y1 (.cells #[.nilFunc, .nilFunc, fnV 84, fnV 85, nK1 (w.heap.size + 1), nK2 (w.heap.size + 1), nK1 w1.heap.size, nK2 w1.heap.size, nK1 w2.heap.size, nK2 w2.heap.size, nK1 w3.heap.size, nK2 w3.heap.size, fnV 87, fnV 88] keepsT)) (And.intro (heap_alloc_keep y2 (.cells #[.nilFunc, .nilFunc, fnV 84, fnV 85, nK1 (w.heap.size + 1), nK2 (w.heap.size + 1), nK1 w1.heap.size, nK2 w1.heap.size, nK1 w2.heap.size, nK2 w2.heap.size, nK1 w3.heap.size, nK2 w3.heap.size, fnV 87, fnV 88] keepsT)) (And.intro (heap_alloc_keep y3 (.cells #[.nilFunc, .nilFunc, fnV 84, fnV 85, nK1 (w.heap.size + 1), nK2 (w.heap.size + 1), nK1 w1.heap.size, nK2 w1.heap.size, nK1 w2.heap.size, nK2 w2.heap.size, nK1 w3.heap.size, nK2 w3.heap.size, fnV 87, fnV 88] keepsT)) (heap_alloc_keep hx4 (.cells #[.nilFunc, .nilFunc, fnV 84, fnV 85, nK1 (w.heap.size + 1), nK2 (w.heap.size + 1), nK1 w1.heap.size, nK2 w1.heap.size, nK1 w2.heap.size, nK2 w2.heap.size, nK1 w3.heap.size, nK2 w3.heap.size, fnV 87, fnV 88] keepsT)))))
 have HS := Lib.hid (And.intro s1 (And.intro s2 s3))
 have HR5 := Lib.hid hr5
 have HB5 := Lib.hid hb5
 obtain ⟨z0, z1⟩ := cells2 hr5
 have zf := row_free hr5
 clear hr4 hb hb1 hb2 hb3 hb4 hx1 hx2 hx3 hx4 y1 y2 y3 s1 s2 s3 s4 hax hr5 hb5
 unfold nK1 nK2 fnV at z0 z1 zf HR5 HB5 HY
 unfold nK1 nK2
 go_wp2_with fail
 clear z0 z1 zf
 generalize w4.alloc (.cells _ keepsT) = W5 at *
 obtain ⟨wf, hwf, hrw, hbf, hkf⟩ := keep_fin (v0 := nK1 w3.heap.size) (v1 := nK2 w3.heap.size) HR5.out HB5.out
 simp only [nK1, nK2, fnV] at hwf
 rw [hwf]
 obtain ⟨e0, e1⟩ := cells2 hrw
 refine bodyPost_ret (v := .agg #[nK1 w3.heap.size, nK2 w3.heap.size]) (by simp [results, Tryz.results65, go_sem, e0, e1]) rfl ⟨_, _, rfl, hbf, ?_⟩
 exact .inr (.inr (.inr (.inr (.inr ⟨rfl, _, rfl, rfl, by have := HS.out; omega, (hkf _ (by have := HS.out; omega)).trans HY.out.2.2.2⟩))))
theorem keeperOf_6 (w : World) :
 Calls Tryz.prog 65 #[.int .i64 6] w (KeepP 6 w) := by
 go_enter Tryz.func65, Tryz.ntmps65
 go_wp2_with fail
 have hax : (w.alloc (.cells #[.nilFunc, .nilFunc] keepT)).heap.size = w.heap.size + 1 := by simp
 refine (numKeeper_any 1 _).mono ?_
 rintro e w1 ⟨rfl, hx1, hb1⟩
 rw [hax] at hx1 hb1
 go_wp2_with fail
 refine (numKeeper_any 2 _).mono ?_
 rintro e w2 ⟨rfl, hx2, hb2⟩
 go_wp2_with fail
 refine (numKeeper_any 4 _).mono ?_
 rintro e w3 ⟨rfl, hx3, hb3⟩
 go_wp2_with fail
 refine (numKeeper_any 8 _).mono ?_
 rintro e w4 ⟨rfl, hx4, hb4⟩
 have s1 := hb1.size
 have s2 := hb2.size
 have s3 := hb3.size
 have s4 := hb4.size
 rw [hax] at s1
 have hr4 := (hb4.block w.heap.size (by omega)).trans ((hb3.block w.heap.size (by omega)).trans ((hb2.block w.heap.size (by omega)).trans ((hb1.block w.heap.size (by omega)).trans (heap_alloc_new w (.cells #[.nilFunc, .nilFunc] keepT)))))
 have hb : Below w.heap.size w w4 := ((((Below.refl _ w).alloc (Nat.le_refl _) _).trans (hb1.mono (by omega))).trans (hb2.mono (by omega))).trans ((hb3.mono (by omega)).trans (hb4.mono (by omega)))
 have y1 := (hb4.block (w.heap.size + 1) (by have := row_lt hx1; omega)).trans ((hb3.block (w.heap.size + 1) (by have := row_lt hx1; omega)).trans ((hb2.block _ (row_lt hx1)).trans hx1))
 have y2 := (hb4.block w1.heap.size (by have := row_lt hx2; omega)).trans ((hb3.block _ (row_lt hx2)).trans hx2)
 have y3 := (hb4.block _ (row_lt hx3)).trans hx3
 have hr5 := (heap_alloc_keep hr4 (.cells #[.nilFunc, .nilFunc, fnV 84, fnV 85, nK1 (w.heap.size + 1), nK2 (w.heap.size + 1), nK1 w1.heap.size, nK2 w1.heap.size, nK1 w2.heap.size, nK2 w2.heap.size, nK1 w3.heap.size, nK2 w3.heap.size, fnV 87, fnV 88] keepsT))
 have hb5 := hb.alloc hb.size (.cells #[.nilFunc, .nilFunc, fnV 84, fnV 85, nK1 (w.heap.size + 1), nK2 (w.heap.size + 1), nK1 w1.heap.size, nK2 w1.heap.size, nK1 w2.heap.size, nK2 w2.heap.size, nK1 w3.heap.size, nK2 w3.heap.size, fnV 87, fnV 88] keepsT)
 have HY := Lib.hid (And.intro (heap_alloc_keep y1 (.cells #[.nilFunc, .nilFunc, fnV 84, fnV 85, nK1 (w.heap.size + 1), nK2 (w.heap.size + 1), nK1 w1.heap.size, nK2 w1.heap.size, nK1 w2.heap.size, nK2 w2.heap.size, nK1 w3.heap.size, nK2 w3.heap.size, fnV 87, fnV 88] keepsT)) (And.intro (heap_alloc_keep y2 (.cells #[.nilFunc, .nilFunc, fnV 84, fnV 85, nK1 (w.heap.size + 1), nK2 (w.heap.size + 1), nK1 w1.heap.size, nK2 w1.heap.size, nK1 w2.heap.size, nK2 w2.heap.size, nK1 w3.heap.size, nK2 w3.heap.size, fnV 87, fnV 88] keepsT)) (And.intro (heap_alloc_keep y3 (.cells #[.nilFunc, .nilFunc, fnV 84, fnV 85, nK1 (w.heap.size + 1), nK2 (w.heap.size + 1), nK1 w1.heap.size, nK2 w1.heap.size, nK1 w2.heap.size, nK2 w2.heap.size, nK1 w3.heap.size, nK2 w3.heap.size, fnV 87, fnV 88] keepsT)) (heap_alloc_keep hx4 (.cells #[.nilFunc, .nilFunc, fnV 84, fnV 85, nK1 (w.heap.size + 1), nK2 (w.heap.size + 1), nK1 w1.heap.size, nK2 w1.heap.size, nK1 w2.heap.size, nK2 w2.heap.size, nK1 w3.heap.size, nK2 w3.heap.size, fnV 87, fnV 88] keepsT)))))
 have HS := Lib.hid (And.intro s1 (And.intro s2 s3))
 have HR5 := Lib.hid hr5
 have HB5 := Lib.hid hb5
 obtain ⟨z0, z1⟩ := cells2 hr5
 have zf := row_free hr5
 clear hr4 hb hb1 hb2 hb3 hb4 hx1 hx2 hx3 hx4 y1 y2 y3 s1 s2 s3 s4 hax hr5 hb5
 unfold nK1 nK2 fnV at z0 z1 zf HR5 HB5 HY
 unfold nK1 nK2
 go_wp2_with fail
 clear z0 z1 zf
 generalize w4.alloc (.cells _ keepsT) = W5 at *
 obtain ⟨wf, hwf, hrw, hbf, hkf⟩ := keep_fin (v0 := fnV 87) (v1 := fnV 88) HR5.out HB5.out
 simp only [nK1, nK2, fnV] at hwf
 rw [hwf]
 obtain ⟨e0, e1⟩ := cells2 hrw
 refine bodyPost_ret (v := .agg #[fnV 87, fnV 88]) (by simp [results, Tryz.results65, go_sem, e0, e1]) rfl ⟨_, _, rfl, hbf, ?_⟩
 exact .inr (.inl ⟨rfl, rfl, rfl⟩)
theorem keeperOf_any (z : Int) (w : World) (h0 : 1 ≤ z) (h1 : z ≤ 6) : Calls Tryz.prog 65 #[.int .i64 z] w (KeepP z w) := by
 have h : z = 1 ∨ z = 2 ∨ z = 3 ∨ z = 4 ∨ z = 5 ∨ z = 6 := by omega
 rcases h with rfl | rfl | rfl | rfl | rfl | rfl
 · exact keeperOf_1 w
 · exact keeperOf_2 w
 · exact keeperOf_3 w
 · exact keeperOf_4 w
 · exact keeperOf_5 w
 · exact keeperOf_6 w
end Go.Proofs.YtehhbbdaeonebaaGreatDoor
namespace Go.Proofs.YtehhbbdaeonebaaGreatDoor
open Go.RowKit
theorem cells11 {w : World} {g : Nat} {v0 v1 v2 v3 v4 v5 v6 v7 v8 v9 v10 : Value} {T : TypeId} (h : w.heap[g]? = some (.cells #[v0, v1, v2, v3, v4, v5, v6, v7, v8, v9, v10] T (0, 0))) :
 w.cell? ⟨g, 0, none⟩ = some v0 ∧ w.cell? ⟨g, 1, none⟩ = some v1 ∧ w.cell? ⟨g, 2, none⟩ = some v2 ∧ w.cell? ⟨g, 3, none⟩ = some v3 ∧ w.cell? ⟨g, 4, none⟩ = some v4 ∧ w.cell? ⟨g, 5, none⟩ = some v5 ∧ w.cell? ⟨g, 6, none⟩ = some v6 ∧ w.cell? ⟨g, 7, none⟩ = some v7 ∧ w.cell? ⟨g, 8, none⟩ = some v8 ∧ w.cell? ⟨g, 9, none⟩ = some v9 ∧ w.cell? ⟨g, 10, none⟩ = some v10 := by
 refine ⟨?_, ?_, ?_, ?_, ?_, ?_, ?_, ?_, ?_, ?_, ?_⟩ <;> (rw [cell_of_row _ _ _ _ _ _ h]; rfl)
theorem set_one {w W : World} {g R i : Nat} {T : TypeId} {arr arr' : Array Value} {v : Value} (hz : W.heap[g]? = some (.cells arr T (0, 0))) (hb : Below R w W) (hR : R ≤ g) (ha : arr.setIfInBounds i v = arr') :
 ∃ wf, W.setCell ⟨g, i, none⟩ v = wf ∧ wf.heap[g]? = some (.cells arr' T (0, 0)) ∧ Below R w wf ∧ (∀ k, k ≠ g → wf.heap[k]? = W.heap[k]?) ∧ W.grownBy wf (some g) := by
 subst ha
 refine ⟨_, rfl, row_setN hz i v, hb.setCell (p := ⟨g, i, none⟩) hR v, fun k hk => ?_, ⟨rfl, rfl, rfl, by simp [World.setCell], fun k _ hk => ?_⟩⟩
 · simp [World.setCell, Array.getElem?_modify, hk, Ne.symm hk]
 · have hk2 : k ≠ g := fun e => hk (by rw [e])
   simp [World.setCell, Array.getElem?_modify, hk2, Ne.symm hk2]
theorem grown_tr {a b c : World} {r : Option Nat} (h : a.grownBy b r) (k : b.grownBy c r) : a.grownBy c r :=
 ⟨k.os.trans h.os, k.tape.trans h.tape, k.output.trans h.output, Nat.le_trans h.size k.size, fun x hx hn => (k.block x (Nat.lt_of_lt_of_le hx h.size) hn).trans (h.block x hx hn)⟩
theorem fin11 {w W : World} {g R : Nat} {T : TypeId} {u0 u1 u2 u3 u4 u5 u6 u7 u8 u9 u10 : Value} (v0 v1 v2 v3 v4 v5 v6 v7 v8 v9 v10 : Value) (hz : W.heap[g]? = some (.cells #[u0, u1, u2, u3, u4, u5, u6, u7, u8, u9, u10] T (0, 0))) (hb : Below R w W) (hR : R ≤ g) :
 ∃ wf, (((((((((((W.setCell ⟨g, 0, none⟩ v0).setCell ⟨g, 1, none⟩ v1).setCell ⟨g, 2, none⟩ v2).setCell ⟨g, 3, none⟩ v3).setCell ⟨g, 4, none⟩ v4).setCell ⟨g, 5, none⟩ v5).setCell ⟨g, 6, none⟩ v6).setCell ⟨g, 7, none⟩ v7).setCell ⟨g, 8, none⟩ v8).setCell ⟨g, 9, none⟩ v9).setCell ⟨g, 10, none⟩ v10) = wf ∧ wf.heap[g]? = some (.cells #[v0, v1, v2, v3, v4, v5, v6, v7, v8, v9, v10] T (0, 0)) ∧ Below R w wf ∧ (∀ k, k ≠ g → wf.heap[k]? = W.heap[k]?) ∧ W.grownBy wf (some g) := by
 obtain ⟨W0, rfl, z0, b0, k0, g0⟩ := set_one (i := 0) (v := v0) (arr' := #[v0, u1, u2, u3, u4, u5, u6, u7, u8, u9, u10]) hz hb hR rfl
 obtain ⟨W1, rfl, z1, b1, k1, g1⟩ := set_one (i := 1) (v := v1) (arr' := #[v0, v1, u2, u3, u4, u5, u6, u7, u8, u9, u10]) z0 b0 hR rfl
 obtain ⟨W2, rfl, z2, b2, k2, g2⟩ := set_one (i := 2) (v := v2) (arr' := #[v0, v1, v2, u3, u4, u5, u6, u7, u8, u9, u10]) z1 b1 hR rfl
 obtain ⟨W3, rfl, z3, b3, k3, g3⟩ := set_one (i := 3) (v := v3) (arr' := #[v0, v1, v2, v3, u4, u5, u6, u7, u8, u9, u10]) z2 b2 hR rfl
 obtain ⟨W4, rfl, z4, b4, k4, g4⟩ := set_one (i := 4) (v := v4) (arr' := #[v0, v1, v2, v3, v4, u5, u6, u7, u8, u9, u10]) z3 b3 hR rfl
 obtain ⟨W5, rfl, z5, b5, k5, g5⟩ := set_one (i := 5) (v := v5) (arr' := #[v0, v1, v2, v3, v4, v5, u6, u7, u8, u9, u10]) z4 b4 hR rfl
 obtain ⟨W6, rfl, z6, b6, k6, g6⟩ := set_one (i := 6) (v := v6) (arr' := #[v0, v1, v2, v3, v4, v5, v6, u7, u8, u9, u10]) z5 b5 hR rfl
 obtain ⟨W7, rfl, z7, b7, k7, g7⟩ := set_one (i := 7) (v := v7) (arr' := #[v0, v1, v2, v3, v4, v5, v6, v7, u8, u9, u10]) z6 b6 hR rfl
 obtain ⟨W8, rfl, z8, b8, k8, g8⟩ := set_one (i := 8) (v := v8) (arr' := #[v0, v1, v2, v3, v4, v5, v6, v7, v8, u9, u10]) z7 b7 hR rfl
 obtain ⟨W9, rfl, z9, b9, k9, g9⟩ := set_one (i := 9) (v := v9) (arr' := #[v0, v1, v2, v3, v4, v5, v6, v7, v8, v9, u10]) z8 b8 hR rfl
 obtain ⟨W10, rfl, z10, b10, k10, g10⟩ := set_one (i := 10) (v := v10) (arr' := #[v0, v1, v2, v3, v4, v5, v6, v7, v8, v9, v10]) z9 b9 hR rfl
 exact ⟨_, rfl, z10, b10, fun k hk => (k10 k hk).trans ((k9 k hk).trans ((k8 k hk).trans ((k7 k hk).trans ((k6 k hk).trans ((k5 k hk).trans ((k4 k hk).trans ((k3 k hk).trans ((k2 k hk).trans ((k1 k hk).trans ((k0 k hk))))))))))), grown_tr (grown_tr (grown_tr (grown_tr (grown_tr (grown_tr (grown_tr (grown_tr (grown_tr (grown_tr (g0) g1) g2) g3) g4) g5) g6) g7) g8) g9) g10⟩
theorem bits_rest {d : ByteArray} {b : Int} (_h0 : 0 ≤ b) (hs : (d.size : Int) = (b + 7) / 8) (h8 : b % 8 = 0) : bitsB d b = true := by simp [bitsB, hs, h8]
theorem div_pow (x r : Nat) : ((x : Int) / (2 : Int) ^ r == 0) = decide (x < 2 ^ r) := by
 have h : (2 : Int) ^ r = ((2 ^ r : Nat) : Int) := by simp
 have hp : 0 < 2 ^ r := Nat.two_pow_pos r
 rw [h, Bool.eq_iff_iff]
 generalize 2 ^ r = p at *
 rw [← Int.natCast_ediv]
 simp only [beq_iff_eq, decide_eq_true_eq]
 have := Nat.div_eq_zero_iff (a := x) (b := p)
 omega
theorem l4Plain_a (k s c : Int) (d : ByteArray) (A B : Option Addr) (lp cp li ci : Nat) (w : World) (h0 : 0 ≤ s) (h5 : s ≤ 5) (c0 : 0 ≤ c) (c1 : c ≤ 12800) (_hdm : d.size ≤ maxLen) :
 Calls Tryz.prog 116 #[.agg #[.int .i64 k, .string d, .slice A lp cp, .int .i64 s, .int .i64 c, .slice B li ci]] w fun e w' => e = .returned (.bool (bitsB d (c * bz s))) ∧ Below w.heap.size w w' := by
 have HBY := Lib.hid (fun W => l4Bytes_a s c W h0 (by omega) c0 c1)
 have HBZ : Hid (byteZ s c = (c * bz s + 7) / 8) := Lib.hid (by unfold byteZ; rw [Int.mul_comm])
 have HR := Lib.hid (heap_alloc_new w (.cells #[.int .i64 k, .string d, .slice A lp cp, .int .i64 s, .int .i64 c, .slice B li ci] nodeT))
 have HBA := Lib.hid ((Below.refl w.heap.size w).alloc (Nat.le_refl _) (.cells #[.int .i64 k, .string d, .slice A lp cp, .int .i64 s, .int .i64 c, .slice B li ci] nodeT))
 have hby : 0 ≤ byteZ s c ∧ byteZ s c ≤ 102401 := by
  have hb := bz_le s
  have h1 := Int.mul_nonneg hb.1 c0
  have h2 := Int.mul_le_mul hb.2 c1 c0 (by omega)
  unfold byteZ; omega
 obtain ⟨by_, hbyd⟩ : ∃ z, z = byteZ s c := ⟨_, rfl⟩
 rw [← hbyd] at HBY HBZ hby
 clear hbyd
 by_cases hne : (d.size : Int) = by_
 · have hneb : ((d.size : Int) != by_) = false := by rw [hne]; simp
   have HSZ : Hid ((d.size : Int) = (c * bz s + 7) / 8) := Lib.hid (by rw [hne, HBZ.out])
   have HNE := Lib.hid hne
   clear hne
   go_enter Tryz.func116, Tryz.ntmps116
   go_wp2_with fail
   generalize w.alloc (.cells #[.int .i64 k, .string d, .slice A lp cp, .int .i64 s, .int .i64 c, .slice B li ci] nodeT) = W at *
   obtain ⟨e0, e1, e2, e3, e4, e5⟩ := cells6 HR.out
   have q1 := cell_regrown e1
   have q3 := cell_regrown e3
   have q4 := cell_regrown e4
   refine wp_region_quiet_below (by kernel_rfl) (by kernel_rfl) ?_
   repeat (first | go_big_quiet_step ((go_at_call 138; with_reducible exact Calls.regrown_of (HBY.out _))) | quiet_step ((go_at_call 138; with_reducible exact Calls.regrown_of (HBY.out _))))
   refine wpQuiet_nil ?_
   intro _ hw'
   obtain ⟨⟨dq, osq⟩, hw''⟩ := hw'
   subst hw''
   have HB2 := Lib.hid (HBA.out.trans ((below_regrown W dq osq).mono HBA.out.size))
   have HR2 := Lib.hid (((below_regrown W dq osq).block _ (row_lt HR.out)).trans HR.out)
   clear q1 q3 q4 e0 e1 e2 e3 e4 e5
   generalize «Sort».grow (redrawn W dq) osq = W2 at *
   obtain ⟨e0, e1, e2, e3, e4, e5⟩ := cells6 HR2.out
   clear HR HBA HBY
   by_cases hs1 : s = 1
   · subst hs1
     have hc1 : c * bz 1 = c := by rw [show bz 1 = 1 from rfl, Int.mul_one]
     rw [hc1] at HSZ
     have HC1 := Lib.hid hc1
     clear hc1
     by_cases h8 : c % 8 = 0
     · have HX := Lib.hid (bits_rest c0 HSZ.out h8)
       go_wp2
       go_ret
       exact ⟨by rw [HC1.out, HX.out]; rfl, HB2.out⟩
     · obtain ⟨j, hj⟩ : ∃ j, d.size = j + 1 := ⟨d.size - 1, by have := HSZ.out; omega⟩
       have hlt : j < d.size := by omega
       have hln : (d.size : Int) - 1 = (j : Int) := by omega
       have hjm : j ≤ 10000000 := by have := HSZ.out; omega
       have HLN := Lib.hid (lastN_eq hj hlt)
       have hx : (d[j]).toNat < 256 := (d[j]).toNat_lt
       have h8b : (c % 8 == 0) = false := by simpa using h8
       have HX : Hid (bitsB d c = decide ((d[j]).toNat < 2 ^ (c % 8).toNat)) := Lib.hid (by
        unfold bitsB
        rw [decide_eq_true HSZ.out, decide_eq_false h8, HLN.out]
        rfl)
       have hw : wrap64 ((d[j]).toNat : Int) = ((d[j]).toNat : Int) := by
        simp only [wrap64]
        omega
       have HW := Lib.hid hw
       have H8 := Lib.hid h8
       clear hj h8 hw
       go_wp2
       go_ret
       refine ⟨?_, HB2.out⟩
       rw [HC1.out, HX.out]
       exact ret_bool (div_pow _ _)
   · have hs1b : (s != 1) = true := by simpa using hs1
     have HX : Hid (bitsB d (c * bz s) = true) := Lib.hid (bits_rest (Int.mul_nonneg c0 (bz_le s).1) HSZ.out (by
      have : s = 0 ∨ s = 2 ∨ s = 3 ∨ s = 4 ∨ s = 5 := by omega
      rcases this with rfl | rfl | rfl | rfl | rfl
      · rw [show bz 0 = 0 from rfl]; omega
      · rw [show bz 2 = 8 from rfl]; omega
      · rw [show bz 3 = 16 from rfl]; omega
      · rw [show bz 4 = 32 from rfl]; omega
      · rw [show bz 5 = 64 from rfl]; omega))
     go_wp2
     go_ret
     exact ⟨by rw [HX.out]; rfl, HB2.out⟩
 · have hneb : ((d.size : Int) != by_) = true := by simpa using hne
   have HX : Hid (bitsB d (c * bz s) = false) := Lib.hid (by unfold bitsB; rw [← HBZ.out, decide_eq_false hne]; rfl)
   clear hne
   go_enter Tryz.func116, Tryz.ntmps116
   go_wp2_with fail
   generalize w.alloc (.cells #[.int .i64 k, .string d, .slice A lp cp, .int .i64 s, .int .i64 c, .slice B li ci] nodeT) = W at *
   obtain ⟨e0, e1, e2, e3, e4, e5⟩ := cells6 HR.out
   have q1 := cell_regrown e1
   have q3 := cell_regrown e3
   have q4 := cell_regrown e4
   refine wp_region_quiet_below (by kernel_rfl) (by kernel_rfl) ?_
   repeat (first | go_big_quiet_step ((go_at_call 138; with_reducible exact Calls.regrown_of (HBY.out _))) | quiet_step ((go_at_call 138; with_reducible exact Calls.regrown_of (HBY.out _))))
   refine wpQuiet_nil ?_
   intro _ hw'
   obtain ⟨⟨dq, osq⟩, hw''⟩ := hw'
   subst hw''
   have HB2 := Lib.hid (HBA.out.trans ((below_regrown W dq osq).mono HBA.out.size))
   clear q1 q3 q4 e0 e1 e2 e3 e4 e5
   generalize «Sort».grow (redrawn W dq) osq = W2 at *
   go_wp2
   go_ret
   exact ⟨by rw [HX.out]; rfl, HB2.out⟩
def Clean (w : World) (k : Nat) : Prop := ∃ cs T, w.heap[k]? = some (.cells cs T (0, 0))
end Go.Proofs.YtehhbbdaeonebaaGreatDoor
