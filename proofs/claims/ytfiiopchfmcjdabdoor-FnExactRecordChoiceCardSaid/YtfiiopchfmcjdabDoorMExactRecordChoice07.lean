/- Texts of the proof of the law FnExactRecordChoice, side by side: part 7. -/
import Derived.Test.YtfiiopchfmcjdabDoorMExactRecordChoice00
import Derived.Test.YtfiiopchfmcjdabDoorMExactRecordChoice01
import Derived.Test.YtfiiopchfmcjdabDoorMExactRecordChoice02
import Derived.Test.YtfiiopchfmcjdabDoorMExactRecordChoice03
import Derived.Test.YtfiiopchfmcjdabDoorMExactRecordChoice04
import Derived.Test.YtfiiopchfmcjdabDoorMExactRecordChoice05
import Derived.Test.YtfiiopchfmcjdabDoorMExactRecordChoice06
/- How fields are kept: keeperOf. -/
namespace Go.Proofs.YtfiiopchfmcjdabDoor
open Go.RowKit
@[local go_sem] theorem run_store_fn' (P : Program) (w : World) (a : Addr) (m : Mode) (fn : Fn) (x y : Array Value) : (store a (.func fn x y) m).run P w = stored P w a (.func fn x y) m := run_store P w a _ m rfl
@[local go_sem] theorem run_store_nilfn (P : Program) (w : World) (a : Addr) (m : Mode) : (store a .nilFunc m).run P w = stored P w a .nilFunc m := run_store P w a _ m rfl
def fnV (f : FuncId) : Value := .func (.func f) #[] #[]
/-- a keeper of numbers of so many bytes. -/
def NumK (k : Int) (w w' : World) (f g : Value) : Prop := ∃ b, f = nK1 b ∧ g = nK2 b ∧ w.heap.size ≤ b ∧ w'.heap[b]? = some (.cells #[.int .i64 k] 3 (0, 0))
def KeepP (z : Int) (w : World) (e : Ending) (w' : World) : Prop :=
  ∃ f g, e = .returned (.agg #[f, g]) ∧ Below w.heap.size w w' ∧ ((z = 1 ∧ f = fnV 103 ∧ g = fnV 104) ∨ (z = 6 ∧ f = fnV 106 ∧ g = fnV 107) ∨ (z = 2 ∧ NumK 1 w w' f g) ∨ (z = 3 ∧ NumK 2 w w' f g) ∨ (z = 4 ∧ NumK 4 w w' f g) ∨ (z = 5 ∧ NumK 8 w w' f g))
abbrev keepsT : TypeId := 151
theorem keep_fin {w W : World} {v0 v1 : Value} (hz : W.heap[w.heap.size]? = some (.cells #[.nilFunc, .nilFunc] keepT (0, 0))) (hb : Below w.heap.size w W) :
    ∃ wf, ((W.setCell ⟨w.heap.size, 0, none⟩ v0).setCell ⟨w.heap.size, 1, none⟩ v1) = wf ∧ wf.heap[w.heap.size]? = some (.cells #[v0, v1] keepT (0, 0)) ∧ Below w.heap.size w wf ∧ ∀ k, k ≠ w.heap.size → wf.heap[k]? = W.heap[k]? := by
  refine ⟨_, rfl, row_setN (row_setN hz 0 _) 1 _, (hb.setCell (p := ⟨w.heap.size, 0, none⟩) (Nat.le_refl _) _).setCell (p := ⟨w.heap.size, 1, none⟩) (Nat.le_refl _) _, fun k hk => ?_⟩
  simp [World.setCell, Array.getElem?_modify, hk, Ne.symm hk]
set_option maxHeartbeats 4000000 in
set_option maxRecDepth 100000 in
theorem keeperOf_1 (w : World) :
    Calls Tryd.prog 83 #[.int .i64 1] w (KeepP 1 w) := by
  go_enter Tryd.func83, Tryd.ntmps83
  go_wp2_with fail
  have hax : (w.alloc (.cells #[.nilFunc, .nilFunc] keepT)).heap.size = w.heap.size + 1 := by simp
  refine (numKeeper_any 1 _).mono ?_
  rintro e w1 ⟨rfl, hx1, hb1⟩
  rw [hax] at hx1 hb1
  go_wp2_with fail
  refine (numKeeper_any 2 _).mono ?_
  rintro e w2 ⟨rfl, hx2, hb2⟩
  go_wp2_with fail
  refine (numKeeper_any 4 _).mono ?_
  rintro e w3 ⟨rfl, hx3, hb3⟩
  go_wp2_with fail
  refine (numKeeper_any 8 _).mono ?_
  rintro e w4 ⟨rfl, hx4, hb4⟩
  have s1 := hb1.size
  have s2 := hb2.size
  have s3 := hb3.size
  have s4 := hb4.size
  rw [hax] at s1
  have hr4 := (hb4.block w.heap.size (by omega)).trans ((hb3.block w.heap.size (by omega)).trans ((hb2.block w.heap.size (by omega)).trans ((hb1.block w.heap.size (by omega)).trans (heap_alloc_new w (.cells #[.nilFunc, .nilFunc] keepT)))))
  have hb : Below w.heap.size w w4 := ((((Below.refl _ w).alloc (Nat.le_refl _) _).trans (hb1.mono (by omega))).trans (hb2.mono (by omega))).trans ((hb3.mono (by omega)).trans (hb4.mono (by omega)))
  have y1 := (hb4.block (w.heap.size + 1) (by have := row_lt hx1; omega)).trans ((hb3.block (w.heap.size + 1) (by have := row_lt hx1; omega)).trans ((hb2.block _ (row_lt hx1)).trans hx1))
  have y2 := (hb4.block w1.heap.size (by have := row_lt hx2; omega)).trans ((hb3.block _ (row_lt hx2)).trans hx2)
  have y3 := (hb4.block _ (row_lt hx3)).trans hx3
  have hr5 := (heap_alloc_keep hr4 (.cells #[.nilFunc, .nilFunc, fnV 103, fnV 104, nK1 (w.heap.size + 1), nK2 (w.heap.size + 1), nK1 w1.heap.size, nK2 w1.heap.size, nK1 w2.heap.size, nK2 w2.heap.size, nK1 w3.heap.size, nK2 w3.heap.size, fnV 106, fnV 107] keepsT))
  have hb5 := hb.alloc hb.size (.cells #[.nilFunc, .nilFunc, fnV 103, fnV 104, nK1 (w.heap.size + 1), nK2 (w.heap.size + 1), nK1 w1.heap.size, nK2 w1.heap.size, nK1 w2.heap.size, nK2 w2.heap.size, nK1 w3.heap.size, nK2 w3.heap.size, fnV 106, fnV 107] keepsT)
  have HY := Lib.hid (And.intro (heap_alloc_keep y1 (.cells #[.nilFunc, .nilFunc, fnV 103, fnV 104, nK1 (w.heap.size + 1), nK2 (w.heap.size + 1), nK1 w1.heap.size, nK2 w1.heap.size, nK1 w2.heap.size, nK2 w2.heap.size, nK1 w3.heap.size, nK2 w3.heap.size, fnV 106, fnV 107] keepsT)) (And.intro (heap_alloc_keep y2 (.cells #[.nilFunc, .nilFunc, fnV 103, fnV 104, nK1 (w.heap.size + 1), nK2 (w.heap.size + 1), nK1 w1.heap.size, nK2 w1.heap.size, nK1 w2.heap.size, nK2 w2.heap.size, nK1 w3.heap.size, nK2 w3.heap.size, fnV 106, fnV 107] keepsT)) (And.intro (heap_alloc_keep y3 (.cells #[.nilFunc, .nilFunc, fnV 103, fnV 104, nK1 (w.heap.size + 1), nK2 (w.heap.size + 1), nK1 w1.heap.size, nK2 w1.heap.size, nK1 w2.heap.size, nK2 w2.heap.size, nK1 w3.heap.size, nK2 w3.heap.size, fnV 106, fnV 107] keepsT)) (heap_alloc_keep hx4 (.cells #[.nilFunc, .nilFunc, fnV 103, fnV 104, nK1 (w.heap.size + 1), nK2 (w.heap.size + 1), nK1 w1.heap.size, nK2 w1.heap.size, nK1 w2.heap.size, nK2 w2.heap.size, nK1 w3.heap.size, nK2 w3.heap.size, fnV 106, fnV 107] keepsT)))))
  have HS := Lib.hid (And.intro s1 (And.intro s2 s3))
  have HR5 := Lib.hid hr5
  have HB5 := Lib.hid hb5
  obtain ⟨z0, z1⟩ := cells2 hr5
  have zf := row_free hr5
  clear hr4 hb hb1 hb2 hb3 hb4 hx1 hx2 hx3 hx4 y1 y2 y3 s1 s2 s3 s4 hax hr5 hb5
  unfold nK1 nK2 fnV at z0 z1 zf HR5 HB5 HY
  unfold nK1 nK2
  go_wp2_with fail
  clear z0 z1 zf
  generalize w4.alloc (.cells _ keepsT) = W5 at *
  obtain ⟨wf, hwf, hrw, hbf, hkf⟩ := keep_fin (v0 := fnV 103) (v1 := fnV 104) HR5.out HB5.out
  simp only [nK1, nK2, fnV] at hwf
  rw [hwf]
  obtain ⟨e0, e1⟩ := cells2 hrw
  refine bodyPost_ret (v := .agg #[fnV 103, fnV 104]) (by simp [results, Tryd.results83, go_sem, e0, e1]) rfl ⟨_, _, rfl, hbf, ?_⟩
  exact .inl ⟨rfl, rfl, rfl⟩
set_option maxHeartbeats 4000000 in
set_option maxRecDepth 100000 in
theorem keeperOf_2 (w : World) :
    Calls Tryd.prog 83 #[.int .i64 2] w (KeepP 2 w) := by
  go_enter Tryd.func83, Tryd.ntmps83
  go_wp2_with fail
  have hax : (w.alloc (.cells #[.nilFunc, .nilFunc] keepT)).heap.size = w.heap.size + 1 := by simp
  refine (numKeeper_any 1 _).mono ?_
  rintro e w1 ⟨rfl, hx1, hb1⟩
  rw [hax] at hx1 hb1
  go_wp2_with fail
  refine (numKeeper_any 2 _).mono ?_
  rintro e w2 ⟨rfl, hx2, hb2⟩
  go_wp2_with fail
  refine (numKeeper_any 4 _).mono ?_
  rintro e w3 ⟨rfl, hx3, hb3⟩
  go_wp2_with fail
  refine (numKeeper_any 8 _).mono ?_
  rintro e w4 ⟨rfl, hx4, hb4⟩
  have s1 := hb1.size
  have s2 := hb2.size
  have s3 := hb3.size
  have s4 := hb4.size
  rw [hax] at s1
  have hr4 := (hb4.block w.heap.size (by omega)).trans ((hb3.block w.heap.size (by omega)).trans ((hb2.block w.heap.size (by omega)).trans ((hb1.block w.heap.size (by omega)).trans (heap_alloc_new w (.cells #[.nilFunc, .nilFunc] keepT)))))
  have hb : Below w.heap.size w w4 := ((((Below.refl _ w).alloc (Nat.le_refl _) _).trans (hb1.mono (by omega))).trans (hb2.mono (by omega))).trans ((hb3.mono (by omega)).trans (hb4.mono (by omega)))
  have y1 := (hb4.block (w.heap.size + 1) (by have := row_lt hx1; omega)).trans ((hb3.block (w.heap.size + 1) (by have := row_lt hx1; omega)).trans ((hb2.block _ (row_lt hx1)).trans hx1))
  have y2 := (hb4.block w1.heap.size (by have := row_lt hx2; omega)).trans ((hb3.block _ (row_lt hx2)).trans hx2)
  have y3 := (hb4.block _ (row_lt hx3)).trans hx3
  have hr5 := (heap_alloc_keep hr4 (.cells #[.nilFunc, .nilFunc, fnV 103, fnV 104, nK1 (w.heap.size + 1), nK2 (w.heap.size + 1), nK1 w1.heap.size, nK2 w1.heap.size, nK1 w2.heap.size, nK2 w2.heap.size, nK1 w3.heap.size, nK2 w3.heap.size, fnV 106, fnV 107] keepsT))
  have hb5 := hb.alloc hb.size (.cells #[.nilFunc, .nilFunc, fnV 103, fnV 104, nK1 (w.heap.size + 1), nK2 (w.heap.size + 1), nK1 w1.heap.size, nK2 w1.heap.size, nK1 w2.heap.size, nK2 w2.heap.size, nK1 w3.heap.size, nK2 w3.heap.size, fnV 106, fnV 107] keepsT)
  have HY := Lib.hid (And.intro (heap_alloc_keep y1 (.cells #[.nilFunc, .nilFunc, fnV 103, fnV 104, nK1 (w.heap.size + 1), nK2 (w.heap.size + 1), nK1 w1.heap.size, nK2 w1.heap.size, nK1 w2.heap.size, nK2 w2.heap.size, nK1 w3.heap.size, nK2 w3.heap.size, fnV 106, fnV 107] keepsT)) (And.intro (heap_alloc_keep y2 (.cells #[.nilFunc, .nilFunc, fnV 103, fnV 104, nK1 (w.heap.size + 1), nK2 (w.heap.size + 1), nK1 w1.heap.size, nK2 w1.heap.size, nK1 w2.heap.size, nK2 w2.heap.size, nK1 w3.heap.size, nK2 w3.heap.size, fnV 106, fnV 107] keepsT)) (And.intro (heap_alloc_keep y3 (.cells #[.nilFunc, .nilFunc, fnV 103, fnV 104, nK1 (w.heap.size + 1), nK2 (w.heap.size + 1), nK1 w1.heap.size, nK2 w1.heap.size, nK1 w2.heap.size, nK2 w2.heap.size, nK1 w3.heap.size, nK2 w3.heap.size, fnV 106, fnV 107] keepsT)) (heap_alloc_keep hx4 (.cells #[.nilFunc, .nilFunc, fnV 103, fnV 104, nK1 (w.heap.size + 1), nK2 (w.heap.size + 1), nK1 w1.heap.size, nK2 w1.heap.size, nK1 w2.heap.size, nK2 w2.heap.size, nK1 w3.heap.size, nK2 w3.heap.size, fnV 106, fnV 107] keepsT)))))
  have HS := Lib.hid (And.intro s1 (And.intro s2 s3))
  have HR5 := Lib.hid hr5
  have HB5 := Lib.hid hb5
  obtain ⟨z0, z1⟩ := cells2 hr5
  have zf := row_free hr5
  clear hr4 hb hb1 hb2 hb3 hb4 hx1 hx2 hx3 hx4 y1 y2 y3 s1 s2 s3 s4 hax hr5 hb5
  unfold nK1 nK2 fnV at z0 z1 zf HR5 HB5 HY
  unfold nK1 nK2
  go_wp2_with fail
  clear z0 z1 zf
  generalize w4.alloc (.cells _ keepsT) = W5 at *
  obtain ⟨wf, hwf, hrw, hbf, hkf⟩ := keep_fin (v0 := nK1 (w.heap.size + 1)) (v1 := nK2 (w.heap.size + 1)) HR5.out HB5.out
  simp only [nK1, nK2, fnV] at hwf
  rw [hwf]
  obtain ⟨e0, e1⟩ := cells2 hrw
  refine bodyPost_ret (v := .agg #[nK1 (w.heap.size + 1), nK2 (w.heap.size + 1)]) (by simp [results, Tryd.results83, go_sem, e0, e1]) rfl ⟨_, _, rfl, hbf, ?_⟩
  exact .inr (.inr (.inl ⟨rfl, _, rfl, rfl, by have := HS.out; omega, (hkf _ (by have := HS.out; omega)).trans HY.out.1⟩))
set_option maxHeartbeats 4000000 in
set_option maxRecDepth 100000 in
theorem keeperOf_3 (w : World) :
    Calls Tryd.prog 83 #[.int .i64 3] w (KeepP 3 w) := by
  go_enter Tryd.func83, Tryd.ntmps83
  go_wp2_with fail
  have hax : (w.alloc (.cells #[.nilFunc, .nilFunc] keepT)).heap.size = w.heap.size + 1 := by simp
  refine (numKeeper_any 1 _).mono ?_
  rintro e w1 ⟨rfl, hx1, hb1⟩
  rw [hax] at hx1 hb1
  go_wp2_with fail
  refine (numKeeper_any 2 _).mono ?_
  rintro e w2 ⟨rfl, hx2, hb2⟩
  go_wp2_with fail
  refine (numKeeper_any 4 _).mono ?_
  rintro e w3 ⟨rfl, hx3, hb3⟩
  go_wp2_with fail
  refine (numKeeper_any 8 _).mono ?_
  rintro e w4 ⟨rfl, hx4, hb4⟩
  have s1 := hb1.size
  have s2 := hb2.size
  have s3 := hb3.size
  have s4 := hb4.size
  rw [hax] at s1
  have hr4 := (hb4.block w.heap.size (by omega)).trans ((hb3.block w.heap.size (by omega)).trans ((hb2.block w.heap.size (by omega)).trans ((hb1.block w.heap.size (by omega)).trans (heap_alloc_new w (.cells #[.nilFunc, .nilFunc] keepT)))))
  have hb : Below w.heap.size w w4 := ((((Below.refl _ w).alloc (Nat.le_refl _) _).trans (hb1.mono (by omega))).trans (hb2.mono (by omega))).trans ((hb3.mono (by omega)).trans (hb4.mono (by omega)))
  have y1 := (hb4.block (w.heap.size + 1) (by have := row_lt hx1; omega)).trans ((hb3.block (w.heap.size + 1) (by have := row_lt hx1; omega)).trans ((hb2.block _ (row_lt hx1)).trans hx1))
  have y2 := (hb4.block w1.heap.size (by have := row_lt hx2; omega)).trans ((hb3.block _ (row_lt hx2)).trans hx2)
  have y3 := (hb4.block _ (row_lt hx3)).trans hx3
  have hr5 := (heap_alloc_keep hr4 (.cells #[.nilFunc, .nilFunc, fnV 103, fnV 104, nK1 (w.heap.size + 1), nK2 (w.heap.size + 1), nK1 w1.heap.size, nK2 w1.heap.size, nK1 w2.heap.size, nK2 w2.heap.size, nK1 w3.heap.size, nK2 w3.heap.size, fnV 106, fnV 107] keepsT))
  have hb5 := hb.alloc hb.size (.cells #[.nilFunc, .nilFunc, fnV 103, fnV 104, nK1 (w.heap.size + 1), nK2 (w.heap.size + 1), nK1 w1.heap.size, nK2 w1.heap.size, nK1 w2.heap.size, nK2 w2.heap.size, nK1 w3.heap.size, nK2 w3.heap.size, fnV 106, fnV 107] keepsT)
  have HY := Lib.hid (And.intro (heap_alloc_keep y1 (.cells #[.nilFunc, .nilFunc, fnV 103, fnV 104, nK1 (w.heap.size + 1), nK2 (w.heap.size + 1), nK1 w1.heap.size, nK2 w1.heap.size, nK1 w2.heap.size, nK2 w2.heap.size, nK1 w3.heap.size, nK2 w3.heap.size, fnV 106, fnV 107] keepsT)) (And.intro (heap_alloc_keep y2 (.cells #[.nilFunc, .nilFunc, fnV 103, fnV 104, nK1 (w.heap.size + 1), nK2 (w.heap.size + 1), nK1 w1.heap.size, nK2 w1.heap.size, nK1 w2.heap.size, nK2 w2.heap.size, nK1 w3.heap.size, nK2 w3.heap.size, fnV 106, fnV 107] keepsT)) (And.intro (heap_alloc_keep y3 (.cells #[.nilFunc, .nilFunc, fnV 103, fnV 104, nK1 (w.heap.size + 1), nK2 (w.heap.size + 1), nK1 w1.heap.size, nK2 w1.heap.size, nK1 w2.heap.size, nK2 w2.heap.size, nK1 w3.heap.size, nK2 w3.heap.size, fnV 106, fnV 107] keepsT)) (heap_alloc_keep hx4 (.cells #[.nilFunc, .nilFunc, fnV 103, fnV 104, nK1 (w.heap.size + 1), nK2 (w.heap.size + 1), nK1 w1.heap.size, nK2 w1.heap.size, nK1 w2.heap.size, nK2 w2.heap.size, nK1 w3.heap.size, nK2 w3.heap.size, fnV 106, fnV 107] keepsT)))))
  have HS := Lib.hid (And.intro s1 (And.intro s2 s3))
  have HR5 := Lib.hid hr5
  have HB5 := Lib.hid hb5
  obtain ⟨z0, z1⟩ := cells2 hr5
  have zf := row_free hr5
  clear hr4 hb hb1 hb2 hb3 hb4 hx1 hx2 hx3 hx4 y1 y2 y3 s1 s2 s3 s4 hax hr5 hb5
  unfold nK1 nK2 fnV at z0 z1 zf HR5 HB5 HY
  unfold nK1 nK2
  go_wp2_with fail
  clear z0 z1 zf
  generalize w4.alloc (.cells _ keepsT) = W5 at *
  obtain ⟨wf, hwf, hrw, hbf, hkf⟩ := keep_fin (v0 := nK1 w1.heap.size) (v1 := nK2 w1.heap.size) HR5.out HB5.out
  simp only [nK1, nK2, fnV] at hwf
  rw [hwf]
  obtain ⟨e0, e1⟩ := cells2 hrw
  refine bodyPost_ret (v := .agg #[nK1 w1.heap.size, nK2 w1.heap.size]) (by simp [results, Tryd.results83, go_sem, e0, e1]) rfl ⟨_, _, rfl, hbf, ?_⟩
  exact .inr (.inr (.inr (.inl ⟨rfl, _, rfl, rfl, by have := HS.out; omega, (hkf _ (by have := HS.out; omega)).trans HY.out.2.1⟩)))
set_option maxHeartbeats 4000000 in
set_option maxRecDepth 100000 in
theorem keeperOf_4 (w : World) :
    Calls Tryd.prog 83 #[.int .i64 4] w (KeepP 4 w) := by
  go_enter Tryd.func83, Tryd.ntmps83
  go_wp2_with fail
  have hax : (w.alloc (.cells #[.nilFunc, .nilFunc] keepT)).heap.size = w.heap.size + 1 := by simp
  refine (numKeeper_any 1 _).mono ?_
  rintro e w1 ⟨rfl, hx1, hb1⟩
  rw [hax] at hx1 hb1
  go_wp2_with fail
  refine (numKeeper_any 2 _).mono ?_
  rintro e w2 ⟨rfl, hx2, hb2⟩
  go_wp2_with fail
  refine (numKeeper_any 4 _).mono ?_
  rintro e w3 ⟨rfl, hx3, hb3⟩
  go_wp2_with fail
  refine (numKeeper_any 8 _).mono ?_
  rintro e w4 ⟨rfl, hx4, hb4⟩
  have s1 := hb1.size
  have s2 := hb2.size
  have s3 := hb3.size
  have s4 := hb4.size
  rw [hax] at s1
  have hr4 := (hb4.block w.heap.size (by omega)).trans ((hb3.block w.heap.size (by omega)).trans ((hb2.block w.heap.size (by omega)).trans ((hb1.block w.heap.size (by omega)).trans (heap_alloc_new w (.cells #[.nilFunc, .nilFunc] keepT)))))
  have hb : Below w.heap.size w w4 := ((((Below.refl _ w).alloc (Nat.le_refl _) _).trans (hb1.mono (by omega))).trans (hb2.mono (by omega))).trans ((hb3.mono (by omega)).trans (hb4.mono (by omega)))
  have y1 := (hb4.block (w.heap.size + 1) (by have := row_lt hx1; omega)).trans ((hb3.block (w.heap.size + 1) (by have := row_lt hx1; omega)).trans ((hb2.block _ (row_lt hx1)).trans hx1))
  have y2 := (hb4.block w1.heap.size (by have := row_lt hx2; omega)).trans ((hb3.block _ (row_lt hx2)).trans hx2)
  have y3 := (hb4.block _ (row_lt hx3)).trans hx3
  have hr5 := (heap_alloc_keep hr4 (.cells #[.nilFunc, .nilFunc, fnV 103, fnV 104, nK1 (w.heap.size + 1), nK2 (w.heap.size + 1), nK1 w1.heap.size, nK2 w1.heap.size, nK1 w2.heap.size, nK2 w2.heap.size, nK1 w3.heap.size, nK2 w3.heap.size, fnV 106, fnV 107] keepsT))
  have hb5 := hb.alloc hb.size (.cells #[.nilFunc, .nilFunc, fnV 103, fnV 104, nK1 (w.heap.size + 1), nK2 (w.heap.size + 1), nK1 w1.heap.size, nK2 w1.heap.size, nK1 w2.heap.size, nK2 w2.heap.size, nK1 w3.heap.size, nK2 w3.heap.size, fnV 106, fnV 107] keepsT)
  have HY := Lib.hid (And.intro (heap_alloc_keep y1 (.cells #[.nilFunc, .nilFunc, fnV 103, fnV 104, nK1 (w.heap.size + 1), nK2 (w.heap.size + 1), nK1 w1.heap.size, nK2 w1.heap.size, nK1 w2.heap.size, nK2 w2.heap.size, nK1 w3.heap.size, nK2 w3.heap.size, fnV 106, fnV 107] keepsT)) (And.intro (heap_alloc_keep y2 (.cells #[.nilFunc, .nilFunc, fnV 103, fnV 104, nK1 (w.heap.size + 1), nK2 (w.heap.size + 1), nK1 w1.heap.size, nK2 w1.heap.size, nK1 w2.heap.size, nK2 w2.heap.size, nK1 w3.heap.size, nK2 w3.heap.size, fnV 106, fnV 107] keepsT)) (And.intro (heap_alloc_keep y3 (.cells #[.nilFunc, .nilFunc, fnV 103, fnV 104, nK1 (w.heap.size + 1), nK2 (w.heap.size + 1), nK1 w1.heap.size, nK2 w1.heap.size, nK1 w2.heap.size, nK2 w2.heap.size, nK1 w3.heap.size, nK2 w3.heap.size, fnV 106, fnV 107] keepsT)) (heap_alloc_keep hx4 (.cells #[.nilFunc, .nilFunc, fnV 103, fnV 104, nK1 (w.heap.size + 1), nK2 (w.heap.size + 1), nK1 w1.heap.size, nK2 w1.heap.size, nK1 w2.heap.size, nK2 w2.heap.size, nK1 w3.heap.size, nK2 w3.heap.size, fnV 106, fnV 107] keepsT)))))
  have HS := Lib.hid (And.intro s1 (And.intro s2 s3))
  have HR5 := Lib.hid hr5
  have HB5 := Lib.hid hb5
  obtain ⟨z0, z1⟩ := cells2 hr5
  have zf := row_free hr5
  clear hr4 hb hb1 hb2 hb3 hb4 hx1 hx2 hx3 hx4 y1 y2 y3 s1 s2 s3 s4 hax hr5 hb5
  unfold nK1 nK2 fnV at z0 z1 zf HR5 HB5 HY
  unfold nK1 nK2
  go_wp2_with fail
  clear z0 z1 zf
  generalize w4.alloc (.cells _ keepsT) = W5 at *
  obtain ⟨wf, hwf, hrw, hbf, hkf⟩ := keep_fin (v0 := nK1 w2.heap.size) (v1 := nK2 w2.heap.size) HR5.out HB5.out
  simp only [nK1, nK2, fnV] at hwf
  rw [hwf]
  obtain ⟨e0, e1⟩ := cells2 hrw
  refine bodyPost_ret (v := .agg #[nK1 w2.heap.size, nK2 w2.heap.size]) (by simp [results, Tryd.results83, go_sem, e0, e1]) rfl ⟨_, _, rfl, hbf, ?_⟩
  exact .inr (.inr (.inr (.inr (.inl ⟨rfl, _, rfl, rfl, by have := HS.out; omega, (hkf _ (by have := HS.out; omega)).trans HY.out.2.2.1⟩))))
set_option maxHeartbeats 4000000 in
set_option maxRecDepth 100000 in
theorem keeperOf_5 (w : World) :
    Calls Tryd.prog 83 #[.int .i64 5] w (KeepP 5 w) := by
  go_enter Tryd.func83, Tryd.ntmps83
  go_wp2_with fail
  have hax : (w.alloc (.cells #[.nilFunc, .nilFunc] keepT)).heap.size = w.heap.size + 1 := by simp
  refine (numKeeper_any 1 _).mono ?_
  rintro e w1 ⟨rfl, hx1, hb1⟩
  rw [hax] at hx1 hb1
  go_wp2_with fail
  refine (numKeeper_any 2 _).mono ?_
  rintro e w2 ⟨rfl, hx2, hb2⟩
  go_wp2_with fail
  refine (numKeeper_any 4 _).mono ?_
  rintro e w3 ⟨rfl, hx3, hb3⟩
  go_wp2_with fail
  refine (numKeeper_any 8 _).mono ?_
  rintro e w4 ⟨rfl, hx4, hb4⟩
  have s1 := hb1.size
  have s2 := hb2.size
  have s3 := hb3.size
  have s4 := hb4.size
  rw [hax] at s1
  have hr4 := (hb4.block w.heap.size (by omega)).trans ((hb3.block w.heap.size (by omega)).trans ((hb2.block w.heap.size (by omega)).trans ((hb1.block w.heap.size (by omega)).trans (heap_alloc_new w (.cells #[.nilFunc, .nilFunc] keepT)))))
  have hb : Below w.heap.size w w4 := ((((Below.refl _ w).alloc (Nat.le_refl _) _).trans (hb1.mono (by omega))).trans (hb2.mono (by omega))).trans ((hb3.mono (by omega)).trans (hb4.mono (by omega)))
  have y1 := (hb4.block (w.heap.size + 1) (by have := row_lt hx1; omega)).trans ((hb3.block (w.heap.size + 1) (by have := row_lt hx1; omega)).trans ((hb2.block _ (row_lt hx1)).trans hx1))
  have y2 := (hb4.block w1.heap.size (by have := row_lt hx2; omega)).trans ((hb3.block _ (row_lt hx2)).trans hx2)
  have y3 := (hb4.block _ (row_lt hx3)).trans hx3
  have hr5 := (heap_alloc_keep hr4 (.cells #[.nilFunc, .nilFunc, fnV 103, fnV 104, nK1 (w.heap.size + 1), nK2 (w.heap.size + 1), nK1 w1.heap.size, nK2 w1.heap.size, nK1 w2.heap.size, nK2 w2.heap.size, nK1 w3.heap.size, nK2 w3.heap.size, fnV 106, fnV 107] keepsT))
  have hb5 := hb.alloc hb.size (.cells #[.nilFunc, .nilFunc, fnV 103, fnV 104, nK1 (w.heap.size + 1), nK2 (w.heap.size + 1), nK1 w1.heap.size, nK2 w1.heap.size, nK1 w2.heap.size, nK2 w2.heap.size, nK1 w3.heap.size, nK2 w3.heap.size, fnV 106, fnV 107] keepsT)
  have HY := Lib.hid (And.intro (heap_alloc_keep y1 (.cells #[.nilFunc, .nilFunc, fnV 103, fnV 104, nK1 (w.heap.size + 1), nK2 (w.heap.size + 1), nK1 w1.heap.size, nK2 w1.heap.size, nK1 w2.heap.size, nK2 w2.heap.size, nK1 w3.heap.size, nK2 w3.heap.size, fnV 106, fnV 107] keepsT)) (And.intro (heap_alloc_keep y2 (.cells #[.nilFunc, .nilFunc, fnV 103, fnV 104, nK1 (w.heap.size + 1), nK2 (w.heap.size + 1), nK1 w1.heap.size, nK2 w1.heap.size, nK1 w2.heap.size, nK2 w2.heap.size, nK1 w3.heap.size, nK2 w3.heap.size, fnV 106, fnV 107] keepsT)) (And.intro (heap_alloc_keep y3 (.cells #[.nilFunc, .nilFunc, fnV 103, fnV 104, nK1 (w.heap.size + 1), nK2 (w.heap.size + 1), nK1 w1.heap.size, nK2 w1.heap.size, nK1 w2.heap.size, nK2 w2.heap.size, nK1 w3.heap.size, nK2 w3.heap.size, fnV 106, fnV 107] keepsT)) (heap_alloc_keep hx4 (.cells #[.nilFunc, .nilFunc, fnV 103, fnV 104, nK1 (w.heap.size + 1), nK2 (w.heap.size + 1), nK1 w1.heap.size, nK2 w1.heap.size, nK1 w2.heap.size, nK2 w2.heap.size, nK1 w3.heap.size, nK2 w3.heap.size, fnV 106, fnV 107] keepsT)))))
  have HS := Lib.hid (And.intro s1 (And.intro s2 s3))
  have HR5 := Lib.hid hr5
  have HB5 := Lib.hid hb5
  obtain ⟨z0, z1⟩ := cells2 hr5
  have zf := row_free hr5
  clear hr4 hb hb1 hb2 hb3 hb4 hx1 hx2 hx3 hx4 y1 y2 y3 s1 s2 s3 s4 hax hr5 hb5
  unfold nK1 nK2 fnV at z0 z1 zf HR5 HB5 HY
  unfold nK1 nK2
  go_wp2_with fail
  clear z0 z1 zf
  generalize w4.alloc (.cells _ keepsT) = W5 at *
  obtain ⟨wf, hwf, hrw, hbf, hkf⟩ := keep_fin (v0 := nK1 w3.heap.size) (v1 := nK2 w3.heap.size) HR5.out HB5.out
  simp only [nK1, nK2, fnV] at hwf
  rw [hwf]
  obtain ⟨e0, e1⟩ := cells2 hrw
  refine bodyPost_ret (v := .agg #[nK1 w3.heap.size, nK2 w3.heap.size]) (by simp [results, Tryd.results83, go_sem, e0, e1]) rfl ⟨_, _, rfl, hbf, ?_⟩
  exact .inr (.inr (.inr (.inr (.inr ⟨rfl, _, rfl, rfl, by have := HS.out; omega, (hkf _ (by have := HS.out; omega)).trans HY.out.2.2.2⟩))))
set_option maxHeartbeats 4000000 in
set_option maxRecDepth 100000 in
theorem keeperOf_6 (w : World) :
    Calls Tryd.prog 83 #[.int .i64 6] w (KeepP 6 w) := by
  go_enter Tryd.func83, Tryd.ntmps83
  go_wp2_with fail
  have hax : (w.alloc (.cells #[.nilFunc, .nilFunc] keepT)).heap.size = w.heap.size + 1 := by simp
  refine (numKeeper_any 1 _).mono ?_
  rintro e w1 ⟨rfl, hx1, hb1⟩
  rw [hax] at hx1 hb1
  go_wp2_with fail
  refine (numKeeper_any 2 _).mono ?_
  rintro e w2 ⟨rfl, hx2, hb2⟩
  go_wp2_with fail
  refine (numKeeper_any 4 _).mono ?_
  rintro e w3 ⟨rfl, hx3, hb3⟩
  go_wp2_with fail
  refine (numKeeper_any 8 _).mono ?_
  rintro e w4 ⟨rfl, hx4, hb4⟩
  have s1 := hb1.size
  have s2 := hb2.size
  have s3 := hb3.size
  have s4 := hb4.size
  rw [hax] at s1
  have hr4 := (hb4.block w.heap.size (by omega)).trans ((hb3.block w.heap.size (by omega)).trans ((hb2.block w.heap.size (by omega)).trans ((hb1.block w.heap.size (by omega)).trans (heap_alloc_new w (.cells #[.nilFunc, .nilFunc] keepT)))))
  have hb : Below w.heap.size w w4 := ((((Below.refl _ w).alloc (Nat.le_refl _) _).trans (hb1.mono (by omega))).trans (hb2.mono (by omega))).trans ((hb3.mono (by omega)).trans (hb4.mono (by omega)))
  have y1 := (hb4.block (w.heap.size + 1) (by have := row_lt hx1; omega)).trans ((hb3.block (w.heap.size + 1) (by have := row_lt hx1; omega)).trans ((hb2.block _ (row_lt hx1)).trans hx1))
  have y2 := (hb4.block w1.heap.size (by have := row_lt hx2; omega)).trans ((hb3.block _ (row_lt hx2)).trans hx2)
  have y3 := (hb4.block _ (row_lt hx3)).trans hx3
  have hr5 := (heap_alloc_keep hr4 (.cells #[.nilFunc, .nilFunc, fnV 103, fnV 104, nK1 (w.heap.size + 1), nK2 (w.heap.size + 1), nK1 w1.heap.size, nK2 w1.heap.size, nK1 w2.heap.size, nK2 w2.heap.size, nK1 w3.heap.size, nK2 w3.heap.size, fnV 106, fnV 107] keepsT))
  have hb5 := hb.alloc hb.size (.cells #[.nilFunc, .nilFunc, fnV 103, fnV 104, nK1 (w.heap.size + 1), nK2 (w.heap.size + 1), nK1 w1.heap.size, nK2 w1.heap.size, nK1 w2.heap.size, nK2 w2.heap.size, nK1 w3.heap.size, nK2 w3.heap.size, fnV 106, fnV 107] keepsT)
  have HY := Lib.hid (And.intro (heap_alloc_keep y1 (.cells #[.nilFunc, .nilFunc, fnV 103, fnV 104, nK1 (w.heap.size + 1), nK2 (w.heap.size + 1), nK1 w1.heap.size, nK2 w1.heap.size, nK1 w2.heap.size, nK2 w2.heap.size, nK1 w3.heap.size, nK2 w3.heap.size, fnV 106, fnV 107] keepsT)) (And.intro (heap_alloc_keep y2 (.cells #[.nilFunc, .nilFunc, fnV 103, fnV 104, nK1 (w.heap.size + 1), nK2 (w.heap.size + 1), nK1 w1.heap.size, nK2 w1.heap.size, nK1 w2.heap.size, nK2 w2.heap.size, nK1 w3.heap.size, nK2 w3.heap.size, fnV 106, fnV 107] keepsT)) (And.intro (heap_alloc_keep y3 (.cells #[.nilFunc, .nilFunc, fnV 103, fnV 104, nK1 (w.heap.size + 1), nK2 (w.heap.size + 1), nK1 w1.heap.size, nK2 w1.heap.size, nK1 w2.heap.size, nK2 w2.heap.size, nK1 w3.heap.size, nK2 w3.heap.size, fnV 106, fnV 107] keepsT)) (heap_alloc_keep hx4 (.cells #[.nilFunc, .nilFunc, fnV 103, fnV 104, nK1 (w.heap.size + 1), nK2 (w.heap.size + 1), nK1 w1.heap.size, nK2 w1.heap.size, nK1 w2.heap.size, nK2 w2.heap.size, nK1 w3.heap.size, nK2 w3.heap.size, fnV 106, fnV 107] keepsT)))))
  have HS := Lib.hid (And.intro s1 (And.intro s2 s3))
  have HR5 := Lib.hid hr5
  have HB5 := Lib.hid hb5
  obtain ⟨z0, z1⟩ := cells2 hr5
  have zf := row_free hr5
  clear hr4 hb hb1 hb2 hb3 hb4 hx1 hx2 hx3 hx4 y1 y2 y3 s1 s2 s3 s4 hax hr5 hb5
  unfold nK1 nK2 fnV at z0 z1 zf HR5 HB5 HY
  unfold nK1 nK2
  go_wp2_with fail
  clear z0 z1 zf
  generalize w4.alloc (.cells _ keepsT) = W5 at *
  obtain ⟨wf, hwf, hrw, hbf, hkf⟩ := keep_fin (v0 := fnV 106) (v1 := fnV 107) HR5.out HB5.out
  simp only [nK1, nK2, fnV] at hwf
  rw [hwf]
  obtain ⟨e0, e1⟩ := cells2 hrw
  refine bodyPost_ret (v := .agg #[fnV 106, fnV 107]) (by simp [results, Tryd.results83, go_sem, e0, e1]) rfl ⟨_, _, rfl, hbf, ?_⟩
  exact .inr (.inl ⟨rfl, rfl, rfl⟩)
theorem keeperOf_any (z : Int) (w : World) (h0 : 1 ≤ z) (h1 : z ≤ 6) : Calls Tryd.prog 83 #[.int .i64 z] w (KeepP z w) := by
  have h : z = 1 ∨ z = 2 ∨ z = 3 ∨ z = 4 ∨ z = 5 ∨ z = 6 := by omega
  rcases h with rfl | rfl | rfl | rfl | rfl | rfl
  · exact keeperOf_1 w
  · exact keeperOf_2 w
  · exact keeperOf_3 w
  · exact keeperOf_4 w
  · exact keeperOf_5 w
  · exact keeperOf_6 w
end Go.Proofs.YtfiiopchfmcjdabDoor

/- A row of eleven cells: a record. No Go text. -/
namespace Go.Proofs.YtfiiopchfmcjdabDoor
open Go.RowKit
theorem cells11 {w : World} {g : Nat} {v0 v1 v2 v3 v4 v5 v6 v7 v8 v9 v10 : Value} {T : TypeId} (h : w.heap[g]? = some (.cells #[v0, v1, v2, v3, v4, v5, v6, v7, v8, v9, v10] T (0, 0))) :
    w.cell? ⟨g, 0, none⟩ = some v0 ∧ w.cell? ⟨g, 1, none⟩ = some v1 ∧ w.cell? ⟨g, 2, none⟩ = some v2 ∧ w.cell? ⟨g, 3, none⟩ = some v3 ∧ w.cell? ⟨g, 4, none⟩ = some v4 ∧ w.cell? ⟨g, 5, none⟩ = some v5 ∧ w.cell? ⟨g, 6, none⟩ = some v6 ∧ w.cell? ⟨g, 7, none⟩ = some v7 ∧ w.cell? ⟨g, 8, none⟩ = some v8 ∧ w.cell? ⟨g, 9, none⟩ = some v9 ∧ w.cell? ⟨g, 10, none⟩ = some v10 := by
  refine ⟨?_, ?_, ?_, ?_, ?_, ?_, ?_, ?_, ?_, ?_, ?_⟩ <;> (rw [cell_of_row _ _ _ _ _ _ h]; rfl)
/-- one cell of a row is stored. -/
theorem set_one {w W : World} {g R i : Nat} {T : TypeId} {arr arr' : Array Value} {v : Value} (hz : W.heap[g]? = some (.cells arr T (0, 0))) (hb : Below R w W) (hR : R ≤ g) (ha : arr.setIfInBounds i v = arr') :
    ∃ wf, W.setCell ⟨g, i, none⟩ v = wf ∧ wf.heap[g]? = some (.cells arr' T (0, 0)) ∧ Below R w wf ∧ (∀ k, k ≠ g → wf.heap[k]? = W.heap[k]?) ∧ W.grownBy wf (some g) := by
  subst ha
  refine ⟨_, rfl, row_setN hz i v, hb.setCell (p := ⟨g, i, none⟩) hR v, fun k hk => ?_, ⟨rfl, rfl, rfl, by simp [World.setCell], fun k _ hk => ?_⟩⟩
  · simp [World.setCell, Array.getElem?_modify, hk, Ne.symm hk]
  · have hk2 : k ≠ g := fun e => hk (by rw [e])
    simp [World.setCell, Array.getElem?_modify, hk2, Ne.symm hk2]
theorem grown_tr {a b c : World} {r : Option Nat} (h : a.grownBy b r) (k : b.grownBy c r) : a.grownBy c r :=
  ⟨k.os.trans h.os, k.tape.trans h.tape, k.output.trans h.output, Nat.le_trans h.size k.size, fun x hx hn => (k.block x (Nat.lt_of_lt_of_le hx h.size) hn).trans (h.block x hx hn)⟩
theorem fin11 {w W : World} {g R : Nat} {T : TypeId} {u0 u1 u2 u3 u4 u5 u6 u7 u8 u9 u10 : Value} (v0 v1 v2 v3 v4 v5 v6 v7 v8 v9 v10 : Value) (hz : W.heap[g]? = some (.cells #[u0, u1, u2, u3, u4, u5, u6, u7, u8, u9, u10] T (0, 0))) (hb : Below R w W) (hR : R ≤ g) :
    ∃ wf, (((((((((((W.setCell ⟨g, 0, none⟩ v0).setCell ⟨g, 1, none⟩ v1).setCell ⟨g, 2, none⟩ v2).setCell ⟨g, 3, none⟩ v3).setCell ⟨g, 4, none⟩ v4).setCell ⟨g, 5, none⟩ v5).setCell ⟨g, 6, none⟩ v6).setCell ⟨g, 7, none⟩ v7).setCell ⟨g, 8, none⟩ v8).setCell ⟨g, 9, none⟩ v9).setCell ⟨g, 10, none⟩ v10) = wf ∧ wf.heap[g]? = some (.cells #[v0, v1, v2, v3, v4, v5, v6, v7, v8, v9, v10] T (0, 0)) ∧ Below R w wf ∧ (∀ k, k ≠ g → wf.heap[k]? = W.heap[k]?) ∧ W.grownBy wf (some g) := by
  obtain ⟨W0, rfl, z0, b0, k0, g0⟩ := set_one (i := 0) (v := v0) (arr' := #[v0, u1, u2, u3, u4, u5, u6, u7, u8, u9, u10]) hz hb hR rfl
  obtain ⟨W1, rfl, z1, b1, k1, g1⟩ := set_one (i := 1) (v := v1) (arr' := #[v0, v1, u2, u3, u4, u5, u6, u7, u8, u9, u10]) z0 b0 hR rfl
  obtain ⟨W2, rfl, z2, b2, k2, g2⟩ := set_one (i := 2) (v := v2) (arr' := #[v0, v1, v2, u3, u4, u5, u6, u7, u8, u9, u10]) z1 b1 hR rfl
  obtain ⟨W3, rfl, z3, b3, k3, g3⟩ := set_one (i := 3) (v := v3) (arr' := #[v0, v1, v2, v3, u4, u5, u6, u7, u8, u9, u10]) z2 b2 hR rfl
  obtain ⟨W4, rfl, z4, b4, k4, g4⟩ := set_one (i := 4) (v := v4) (arr' := #[v0, v1, v2, v3, v4, u5, u6, u7, u8, u9, u10]) z3 b3 hR rfl
  obtain ⟨W5, rfl, z5, b5, k5, g5⟩ := set_one (i := 5) (v := v5) (arr' := #[v0, v1, v2, v3, v4, v5, u6, u7, u8, u9, u10]) z4 b4 hR rfl
  obtain ⟨W6, rfl, z6, b6, k6, g6⟩ := set_one (i := 6) (v := v6) (arr' := #[v0, v1, v2, v3, v4, v5, v6, u7, u8, u9, u10]) z5 b5 hR rfl
  obtain ⟨W7, rfl, z7, b7, k7, g7⟩ := set_one (i := 7) (v := v7) (arr' := #[v0, v1, v2, v3, v4, v5, v6, v7, u8, u9, u10]) z6 b6 hR rfl
  obtain ⟨W8, rfl, z8, b8, k8, g8⟩ := set_one (i := 8) (v := v8) (arr' := #[v0, v1, v2, v3, v4, v5, v6, v7, v8, u9, u10]) z7 b7 hR rfl
  obtain ⟨W9, rfl, z9, b9, k9, g9⟩ := set_one (i := 9) (v := v9) (arr' := #[v0, v1, v2, v3, v4, v5, v6, v7, v8, v9, u10]) z8 b8 hR rfl
  obtain ⟨W10, rfl, z10, b10, k10, g10⟩ := set_one (i := 10) (v := v10) (arr' := #[v0, v1, v2, v3, v4, v5, v6, v7, v8, v9, v10]) z9 b9 hR rfl
  exact ⟨_, rfl, z10, b10, fun k hk => (k10 k hk).trans ((k9 k hk).trans ((k8 k hk).trans ((k7 k hk).trans ((k6 k hk).trans ((k5 k hk).trans ((k4 k hk).trans ((k3 k hk).trans ((k2 k hk).trans ((k1 k hk).trans ((k0 k hk))))))))))), grown_tr (grown_tr (grown_tr (grown_tr (grown_tr (grown_tr (grown_tr (grown_tr (grown_tr (grown_tr (g0) g1) g2) g3) g4) g5) g6) g7) g8) g9) g10⟩
end Go.Proofs.YtfiiopchfmcjdabDoor

/- A row of seven cells: a value of a field. No Go text. -/
namespace Go.Proofs.YtfiiopchfmcjdabDoor
open Go.RowKit
theorem cells7 {w : World} {g : Nat} {v0 v1 v2 v3 v4 v5 v6 : Value} {T : TypeId} (h : w.heap[g]? = some (.cells #[v0, v1, v2, v3, v4, v5, v6] T (0, 0))) :
    w.cell? ⟨g, 0, none⟩ = some v0 ∧ w.cell? ⟨g, 1, none⟩ = some v1 ∧ w.cell? ⟨g, 2, none⟩ = some v2 ∧ w.cell? ⟨g, 3, none⟩ = some v3 ∧ w.cell? ⟨g, 4, none⟩ = some v4 ∧ w.cell? ⟨g, 5, none⟩ = some v5 ∧ w.cell? ⟨g, 6, none⟩ = some v6 := by
  refine ⟨?_, ?_, ?_, ?_, ?_, ?_, ?_⟩ <;> (rw [cell_of_row _ _ _ _ _ _ h]; rfl)
theorem fin7 {w W : World} {g R : Nat} {T : TypeId} {u0 u1 u2 u3 u4 u5 u6 : Value} (v0 v1 v2 v3 v4 v5 v6 : Value) (hz : W.heap[g]? = some (.cells #[u0, u1, u2, u3, u4, u5, u6] T (0, 0))) (hb : Below R w W) (hR : R ≤ g) :
    ∃ wf, (((((((W.setCell ⟨g, 0, none⟩ v0).setCell ⟨g, 1, none⟩ v1).setCell ⟨g, 2, none⟩ v2).setCell ⟨g, 3, none⟩ v3).setCell ⟨g, 4, none⟩ v4).setCell ⟨g, 5, none⟩ v5).setCell ⟨g, 6, none⟩ v6) = wf ∧ wf.heap[g]? = some (.cells #[v0, v1, v2, v3, v4, v5, v6] T (0, 0)) ∧ Below R w wf ∧ (∀ k, k ≠ g → wf.heap[k]? = W.heap[k]?) ∧ W.grownBy wf (some g) := by
  obtain ⟨W0, rfl, z0, b0, k0, g0⟩ := set_one (i := 0) (v := v0) (arr' := #[v0, u1, u2, u3, u4, u5, u6]) hz hb hR rfl
  obtain ⟨W1, rfl, z1, b1, k1, g1⟩ := set_one (i := 1) (v := v1) (arr' := #[v0, v1, u2, u3, u4, u5, u6]) z0 b0 hR rfl
  obtain ⟨W2, rfl, z2, b2, k2, g2⟩ := set_one (i := 2) (v := v2) (arr' := #[v0, v1, v2, u3, u4, u5, u6]) z1 b1 hR rfl
  obtain ⟨W3, rfl, z3, b3, k3, g3⟩ := set_one (i := 3) (v := v3) (arr' := #[v0, v1, v2, v3, u4, u5, u6]) z2 b2 hR rfl
  obtain ⟨W4, rfl, z4, b4, k4, g4⟩ := set_one (i := 4) (v := v4) (arr' := #[v0, v1, v2, v3, v4, u5, u6]) z3 b3 hR rfl
  obtain ⟨W5, rfl, z5, b5, k5, g5⟩ := set_one (i := 5) (v := v5) (arr' := #[v0, v1, v2, v3, v4, v5, u6]) z4 b4 hR rfl
  obtain ⟨W6, rfl, z6, b6, k6, g6⟩ := set_one (i := 6) (v := v6) (arr' := #[v0, v1, v2, v3, v4, v5, v6]) z5 b5 hR rfl
  exact ⟨_, rfl, z6, b6, fun k hk => (k6 k hk).trans ((k5 k hk).trans ((k4 k hk).trans ((k3 k hk).trans ((k2 k hk).trans ((k1 k hk).trans ((k0 k hk))))))), grown_tr (grown_tr (grown_tr (grown_tr (grown_tr (grown_tr (g0) g1) g2) g3) g4) g5) g6⟩
end Go.Proofs.YtfiiopchfmcjdabDoor

/- What a keeper of numbers gets. -/
namespace Go.Proofs.YtfiiopchfmcjdabDoor
open Go.RowKit
def numV (z : Int) : Value := .agg #[.int .i64 z, .int .i64 0, .string ⟨#[]⟩, .slice none 0 0, .int .i64 0, .int .i64 0, .slice none 0 0]
set_option maxHeartbeats 1000000 in
theorem numGet_a (n : Nd) (h : Hd) (at_ k : Int) (b : Nat) (w : World) (hd : n.data.size ≤ maxLen) (hk : w.heap[b]? = some (.cells #[.int .i64 k] 3 (0, 0))) (h0 : 0 ≤ at_) (h1 : at_ ≤ 10000) (k0 : 0 ≤ k) (k1 : k ≤ 8) :
    Calls Tryd.prog 134 #[.agg #[.int .i64 n.kind, .string n.data, .slice h.A n.ptrs.length h.a, .int .i64 n.size, .int .i64 n.count, .slice h.B n.items.length h.b], .int .i64 at_, .pointer (some ⟨b, 0, none⟩)] w fun e w' => e = .returned (numV (getI n.data.data.toList (at_ * k) k)) ∧ Below w.heap.size w w' := by
  have hax : (w.alloc (.cells #[.int .i64 n.kind, .string n.data, .slice h.A n.ptrs.length h.a, .int .i64 n.size, .int .i64 n.count, .slice h.B n.items.length h.b] nodeT)).heap.size = w.heap.size + 1 := by simp
  have hbx : Below w.heap.size w ((w.alloc (.cells #[.int .i64 n.kind, .string n.data, .slice h.A n.ptrs.length h.a, .int .i64 n.size, .int .i64 n.count, .slice h.B n.items.length h.b] nodeT)).alloc (.cells #[.int .i64 0, .int .i64 0, .string { data := #[] }, .slice none 0 0, .int .i64 0, .int .i64 0, .slice none 0 0] valT)) := ((Below.refl _ _).alloc (Nat.le_refl _) _).alloc (by simp) _
  have hg0 : ((w.alloc (.cells #[.int .i64 n.kind, .string n.data, .slice h.A n.ptrs.length h.a, .int .i64 n.size, .int .i64 n.count, .slice h.B n.items.length h.b] nodeT)).alloc (.cells #[.int .i64 0, .int .i64 0, .string { data := #[] }, .slice none 0 0, .int .i64 0, .int .i64 0, .slice none 0 0] valT)).heap[w.heap.size]? = some (.cells #[.int .i64 n.kind, .string n.data, .slice h.A n.ptrs.length h.a, .int .i64 n.size, .int .i64 n.count, .slice h.B n.items.length h.b] nodeT (0, 0)) := heap_alloc_keep (heap_alloc_new w _) _
  have hg1 : ((w.alloc (.cells #[.int .i64 n.kind, .string n.data, .slice h.A n.ptrs.length h.a, .int .i64 n.size, .int .i64 n.count, .slice h.B n.items.length h.b] nodeT)).alloc (.cells #[.int .i64 0, .int .i64 0, .string { data := #[] }, .slice none 0 0, .int .i64 0, .int .i64 0, .slice none 0 0] valT)).heap[w.heap.size + 1]? = some (.cells #[.int .i64 0, .int .i64 0, .string { data := #[] }, .slice none 0 0, .int .i64 0, .int .i64 0, .slice none 0 0] valT (0, 0)) := hax ▸ heap_alloc_new _ _
  have hbk := (hbx.block b (row_lt hk)).trans hk
  have hbc := (show ((w.alloc (.cells #[.int .i64 n.kind, .string n.data, .slice h.A n.ptrs.length h.a, .int .i64 n.size, .int .i64 n.count, .slice h.B n.items.length h.b] nodeT)).alloc (.cells #[.int .i64 0, .int .i64 0, .string { data := #[] }, .slice none 0 0, .int .i64 0, .int .i64 0, .slice none 0 0] valT)).cell? ⟨b, 0, none⟩ = some (.int .i64 k) by rw [cell_of_row _ _ _ _ _ _ hbk]; rfl)
  obtain ⟨a0, a1, a2, a3, a4, a5⟩ := cells6 hg0
  have HB0 := Lib.hid hbx
  have HG1 := Lib.hid hg1
  have HW : Hid (wrap64 (at_ * k) = at_ * k) := Lib.hid (by
    have h2 : 0 ≤ at_ * k := Int.mul_nonneg h0 k0
    have h3 : at_ * k ≤ 10000 * 8 := Int.mul_le_mul h1 k1 k0 (by decide)
    generalize at_ * k = x at *
    unfold wrap64
    omega)
  clear hbx hg0 hg1 hbk hax hk
  go_enter Tryd.func134, Tryd.ntmps134
  go_wp2_with fail
  rw [HW.out]
  clear a0 a1 a2 a3 a4 a5 hbc
  generalize ((w.alloc (.cells #[.int .i64 n.kind, .string n.data, .slice h.A n.ptrs.length h.a, .int .i64 n.size, .int .i64 n.count, .slice h.B n.items.length h.b] nodeT)).alloc (.cells #[.int .i64 0, .int .i64 0, .string { data := #[] }, .slice none 0 0, .int .i64 0, .int .i64 0, .slice none 0 0] valT)) = W at *
  refine (implGet_any n.data (at_ * k) k W hd).mono ?_
  rintro e w2 ⟨rfl, hb2⟩
  have hs := HB0.out.size
  have HB2 := Lib.hid (HB0.out.trans (hb2.mono hs))
  have hr := (hb2.block _ (row_lt HG1.out)).trans HG1.out
  have HR := Lib.hid hr
  obtain ⟨z0, z1, z2, z3, z4, z5, z6⟩ := cells7 hr
  have zf := row_free hr
  obtain ⟨gv, hgv⟩ : ∃ gv, getI n.data.data.toList (at_ * k) k = gv := ⟨_, rfl⟩
  have HGV := Lib.hid hgv
  rw [hgv]
  clear hgv
  clear hb2 hr
  go_wp2_with fail
  obtain ⟨wf, hwf, hrw, hbf, -, -⟩ := fin7 (R := w.heap.size) (.int .i64 gv) (.int .i64 0) (.string ⟨#[]⟩) (.slice none 0 0) (.int .i64 0) (.int .i64 0) (.slice none 0 0) HR.out HB2.out (by omega)
  rw [hwf]
  obtain ⟨e0, e1, e2, e3, e4, e5, e6⟩ := cells7 hrw
  exact bodyPost_ret (v := numV gv) (by simp [results, Tryd.results134, go_sem, numV, e0, e1, e2, e3, e4, e5, e6]) rfl ⟨by rw [HGV.out], hbf⟩
end Go.Proofs.YtfiiopchfmcjdabDoor
