/- Texts of the proof of the law FnExactAccessPut, side by side: part 6. -/
import Derived.Test.YtfnecflkahmjoaaMExactAccessPut05
set_option maxHeartbeats 8000000
set_option maxRecDepth 100000
namespace Go.Proofs.Ytfnecflkahmjoaa
open Go.RowKit Go.Deep
@[local go_sem] theorem st_bit1 (P : Program) (w : World) (a : Addr) (m : Mode) (b : Nat) : (store a (bit1V b) m).run P w = stored P w a (bit1V b) m := run_store P w a _ m rfl
@[local go_sem] theorem st_bit2 (P : Program) (w : World) (a : Addr) (m : Mode) (b : Nat) : (store a (bit2V b) m).run P w = stored P w a (bit2V b) m := run_store P w a _ m rfl
@[local go_sem] theorem st_num1 (P : Program) (w : World) (a : Addr) (m : Mode) (b : Nat) : (store a (num1V b) m).run P w = stored P w a (num1V b) m := run_store P w a _ m rfl
@[local go_sem] theorem st_num2 (P : Program) (w : World) (a : Addr) (m : Mode) (b : Nat) : (store a (num2V b) m).run P w = stored P w a (num2V b) m := run_store P w a _ m rfl
@[local go_sem] theorem st_point1 (P : Program) (w : World) (a : Addr) (m : Mode) (b : Nat) : (store a (point1V b) m).run P w = stored P w a (point1V b) m := run_store P w a _ m rfl
@[local go_sem] theorem st_point2 (P : Program) (w : World) (a : Addr) (m : Mode) (b : Nat) : (store a (point2V b) m).run P w = stored P w a (point2V b) m := run_store P w a _ m rfl
@[local go_sem] theorem st_told1 (P : Program) (w : World) (a : Addr) (m : Mode) (b : Nat) : (store a (told1V b) m).run P w = stored P w a (told1V b) m := run_store P w a _ m rfl
@[local go_sem] theorem st_told2 (P : Program) (w : World) (a : Addr) (m : Mode) (b : Nat) : (store a (told2V b) m).run P w = stored P w a (told2V b) m := run_store P w a _ m rfl
theorem acrOf_1n (nm : ByteArray) (at_ sz tu tg pl : Int) (w : World) (ht : tg < 0) :
 Calls Try.prog 28 #[accV nm 1 at_ sz tu tg pl] w fun e w' => ∃ b, e = .returned (.agg #[bit1V b, bit2V b]) ∧ w'.heap[b]? = some (.cells #[.int .i64 at_] 3 (0, 0)) ∧ w'.heap[b + 1]? = some (.cells #[.int .i64 tu] 3 (0, 0)) ∧ Below w.heap.size w w' := by
 have HT := Lib.hid (fun W : World => isTagged_any nm 1 at_ sz tu tg pl W)
 have htd : decide (0 ≤ tg) = false := by simp; omega
 rw [htd] at HT
 unfold accV at HT ⊢
 have q0 := al_first w (.cells #[.string nm, .int .i64 1, .int .i64 at_, .int .i64 sz, .int .i64 tu, .int .i64 tg, .int .i64 pl] accT)
 have q1 := al_next q0 (.cells #[.nilFunc, .nilFunc] acrT)
 have r0 := heap_alloc_keep (heap_alloc_new w (.cells #[.string nm, .int .i64 1, .int .i64 at_, .int .i64 sz, .int .i64 tu, .int .i64 tg, .int .i64 pl] accT)) (.cells #[.nilFunc, .nilFunc] acrT)
 have r1 := al_row q0 #[.nilFunc, .nilFunc] acrT
 have HB0 := Lib.hid q1.2
 have HR0 := Lib.hid r0
 have HR1 := Lib.hid r1
 obtain ⟨a0, a1, a2, a3, a4, a5, a6⟩ := cellsV r0
 clear q1 q0 r0 r1 htd ht
 go_enter Try.func28, Try.ntmps28
 go_wp2_with fail
 generalize (w.alloc (.cells #[.string nm, .int .i64 1, .int .i64 at_, .int .i64 sz, .int .i64 tu, .int .i64 tg, .int .i64 pl] accT)).alloc (.cells #[.nilFunc, .nilFunc] acrT) = W at *
 refine (pointAcc_any at_ W).mono ?_
 rintro e w1 ⟨rfl, p0, hb1⟩
 obtain ⟨g, hg⟩ : ∃ g, g = W.heap.size := ⟨_, rfl⟩
 rw [← hg] at p0 ⊢
 have hgl : W.heap.size ≤ g := Nat.le_of_eq hg.symm
 clear hg
 have hw1 := row_lt HR1.out
 have hba := hb1.alloc hb1.size (.cells #[point1V g, point2V g] acrT)
 have rx := heap_alloc_new w1 (.cells #[point1V g, point2V g] acrT)
 have p1 := heap_alloc_keep p0 (.cells #[point1V g, point2V g] acrT)
 have x0 := (hba.block _ (row_lt HR0.out)).trans HR0.out
 have x1 := (hba.block _ (row_lt HR1.out)).trans HR1.out
 have HB1 := Lib.hid (HB0.out.trans (hba.mono HB0.out.size))
 have HX0 := Lib.hid x0
 have HX1 := Lib.hid x1
 have HP := Lib.hid p1
 have HRX := Lib.hid rx
 have hlx : w.heap.size + 2 ≤ w1.heap.size := by have := row_lt HR1.out; have := hb1.size; omega
 clear a0 a1 a2 a3 a4 a5 a6
 obtain ⟨a0, a1, a2, a3, a4, a5, a6⟩ := cellsV x0
 obtain ⟨m0, m1⟩ := cellsA rx
 have mf := row_free rx
 clear hb1 hba rx x0 x1 p0 p1
 go_wp2_with fail
 generalize w1.alloc (.cells #[point1V g, point2V g] acrT) = V1 at *
 generalize w1.heap.size = xb at *
 refine (bitAcc_any at_ tu V1).mono ?_
 rintro e w2 ⟨rfl, b0, b1, hb2⟩
 obtain ⟨b, hbb⟩ : ∃ b, b = V1.heap.size := ⟨_, rfl⟩
 rw [← hbb] at b0 b1 ⊢
 have hbl : V1.heap.size ≤ b := Nat.le_of_eq hbb.symm
 clear hbb
 have hxb := row_lt HRX.out
 have hrx := (hb2.block _ hxb).trans HRX.out
 have y1 := row_setN (row_setN hrx 0 (bit1V b)) 1 (bit2V b)
 simp only [List.setIfInBounds_toArray, List.set_cons_zero, List.set_cons_succ] at y1
 have hks : ∀ k, k ≠ xb → ((w2.setCell ⟨xb, 0, none⟩ (bit1V b)).setCell ⟨xb, 1, none⟩ (bit2V b)).heap[k]? = w2.heap[k]? := fun k h => (Below.heap_setCell _ ⟨xb, 1, none⟩ _ k h).trans (Below.heap_setCell _ ⟨xb, 0, none⟩ _ k h)
 have c0 := (hks _ (by omega)).trans b0
 have c1 := (hks _ (by omega)).trans b1
 have x0 := (hks w.heap.size (by omega)).trans ((hb2.block _ (row_lt HX0.out)).trans HX0.out)
 have x1 := (hks (w.heap.size + 1) (by omega)).trans ((hb2.block _ (row_lt HX1.out)).trans HX1.out)
 have HB2 := Lib.hid (((HB1.out.trans (hb2.mono HB1.out.size)).setCell (p := ⟨xb, 0, none⟩) (by show w.heap.size ≤ xb; omega) (bit1V b)).setCell (p := ⟨xb, 1, none⟩) (by show w.heap.size ≤ xb; omega) (bit2V b))
 have HX2 := Lib.hid x0
 have HX3 := Lib.hid x1
 have HY1 := Lib.hid y1
 have HBX := Lib.hid (And.intro c0 c1)
 clear a0 a1 a2 a3 a4 a5 a6 m0 m1 mf
 obtain ⟨n0, n1⟩ := cellsA hrx
 have nf := row_free hrx
 obtain ⟨a0, a1, a2, a3, a4, a5, a6⟩ := cellsV x0
 obtain ⟨m0, m1⟩ := cellsA y1
 clear hb2 hrx y1 hks x0 x1 b0 b1 c0 c1
 go_wp2_with fail
 generalize (w2.setCell ⟨xb, 0, none⟩ (bit1V b)).setCell ⟨xb, 1, none⟩ (bit2V b) = V2 at *
 clear n0 n1 nf
 clear a0 a1 a2 a3 a4 a5 a6 m0 m1
 refine (HT.out V2).mono ?_
 rintro e w3 ⟨rfl, hb3⟩
 have x0 := (hb3.block _ (row_lt HX2.out)).trans HX2.out
 have x1 := (hb3.block _ (row_lt HX3.out)).trans HX3.out
 have y1 := (hb3.block _ (row_lt HY1.out)).trans HY1.out
 have HB3 := Lib.hid (HB2.out.trans (hb3.mono HB2.out.size))
 have HBX3 := Lib.hid (And.intro ((hb3.block _ (row_lt HBX.out.1)).trans HBX.out.1) ((hb3.block _ (row_lt HBX.out.2)).trans HBX.out.2))
 have HX4 := Lib.hid x1
 have HY4 := Lib.hid y1
 obtain ⟨a0, a1, a2, a3, a4, a5, a6⟩ := cellsV x0
 obtain ⟨m0, m1⟩ := cellsA y1
 obtain ⟨z0, z1⟩ := cellsA x1
 have zf := row_free x1
 clear hb3 x0 x1 y1
 go_wp2_with fail
 have z1 := row_setN (row_setN HX4.out 0 (bit1V b)) 1 (bit2V b)
 simp only [List.setIfInBounds_toArray, List.set_cons_zero, List.set_cons_succ] at z1
 have hks : ∀ k, k ≠ w.heap.size + 1 → ((w3.setCell ⟨w.heap.size + 1, 0, none⟩ (bit1V b)).setCell ⟨w.heap.size + 1, 1, none⟩ (bit2V b)).heap[k]? = w3.heap[k]? := fun k h => (Below.heap_setCell _ ⟨w.heap.size + 1, 1, none⟩ _ k h).trans (Below.heap_setCell _ ⟨w.heap.size + 1, 0, none⟩ _ k h)
 have HF4 := Lib.hid ((HB3.out.setCell (p := ⟨w.heap.size + 1, 0, none⟩) (by show w.heap.size ≤ w.heap.size + 1; omega) (bit1V b)).setCell (p := ⟨w.heap.size + 1, 1, none⟩) (by show w.heap.size ≤ w.heap.size + 1; omega) (bit2V b))
 have hbn : w.heap.size + 2 ≤ b := by omega
 have HF := Lib.hid (And.intro ((hks _ (by omega)).trans HBX3.out.1) (And.intro ((hks _ (by omega)).trans HBX3.out.2) (HF4.out)))
 obtain ⟨e0, e1⟩ := cellsA z1
 exact bodyPost_ret (v := .agg #[bit1V b, bit2V b]) (by simp [results, Try.results28, go_sem, e0, e1]) rfl ⟨b, rfl, HF.out⟩
theorem acrOf_1t (nm : ByteArray) (at_ sz tu tg pl : Int) (w : World) (ht : 0 ≤ tg) :
 Calls Try.prog 28 #[accV nm 1 at_ sz tu tg pl] w fun e w' => ∃ c b, e = .returned (.agg #[told1V c, told2V c]) ∧ w'.heap[c]? = some (.cells #[bit1V b, bit2V b] acrT (0, 0)) ∧ w'.heap[c + 1]? = some (.cells #[.int .i64 tg] 3 (0, 0)) ∧ w'.heap[c + 2]? = some (.cells #[.int .i64 pl] 3 (0, 0)) ∧ w'.heap[b]? = some (.cells #[.int .i64 at_] 3 (0, 0)) ∧ w'.heap[b + 1]? = some (.cells #[.int .i64 tu] 3 (0, 0)) ∧ Below w.heap.size w w' := by
 have HT := Lib.hid (fun W : World => isTagged_any nm 1 at_ sz tu tg pl W)
 have htd : decide (0 ≤ tg) = true := by simp; omega
 rw [htd] at HT
 unfold accV at HT ⊢
 have q0 := al_first w (.cells #[.string nm, .int .i64 1, .int .i64 at_, .int .i64 sz, .int .i64 tu, .int .i64 tg, .int .i64 pl] accT)
 have q1 := al_next q0 (.cells #[.nilFunc, .nilFunc] acrT)
 have r0 := heap_alloc_keep (heap_alloc_new w (.cells #[.string nm, .int .i64 1, .int .i64 at_, .int .i64 sz, .int .i64 tu, .int .i64 tg, .int .i64 pl] accT)) (.cells #[.nilFunc, .nilFunc] acrT)
 have r1 := al_row q0 #[.nilFunc, .nilFunc] acrT
 have HB0 := Lib.hid q1.2
 have HR0 := Lib.hid r0
 have HR1 := Lib.hid r1
 obtain ⟨a0, a1, a2, a3, a4, a5, a6⟩ := cellsV r0
 clear q1 q0 r0 r1 htd ht
 go_enter Try.func28, Try.ntmps28
 go_wp2_with fail
 generalize (w.alloc (.cells #[.string nm, .int .i64 1, .int .i64 at_, .int .i64 sz, .int .i64 tu, .int .i64 tg, .int .i64 pl] accT)).alloc (.cells #[.nilFunc, .nilFunc] acrT) = W at *
 refine (pointAcc_any at_ W).mono ?_
 rintro e w1 ⟨rfl, p0, hb1⟩
 obtain ⟨g, hg⟩ : ∃ g, g = W.heap.size := ⟨_, rfl⟩
 rw [← hg] at p0 ⊢
 have hgl : W.heap.size ≤ g := Nat.le_of_eq hg.symm
 clear hg
 have hw1 := row_lt HR1.out
 have hba := hb1.alloc hb1.size (.cells #[point1V g, point2V g] acrT)
 have rx := heap_alloc_new w1 (.cells #[point1V g, point2V g] acrT)
 have p1 := heap_alloc_keep p0 (.cells #[point1V g, point2V g] acrT)
 have x0 := (hba.block _ (row_lt HR0.out)).trans HR0.out
 have x1 := (hba.block _ (row_lt HR1.out)).trans HR1.out
 have HB1 := Lib.hid (HB0.out.trans (hba.mono HB0.out.size))
 have HX0 := Lib.hid x0
 have HX1 := Lib.hid x1
 have HP := Lib.hid p1
 have HRX := Lib.hid rx
 have hlx : w.heap.size + 2 ≤ w1.heap.size := by have := row_lt HR1.out; have := hb1.size; omega
 clear a0 a1 a2 a3 a4 a5 a6
 obtain ⟨a0, a1, a2, a3, a4, a5, a6⟩ := cellsV x0
 obtain ⟨m0, m1⟩ := cellsA rx
 have mf := row_free rx
 clear hb1 hba rx x0 x1 p0 p1
 go_wp2_with fail
 generalize w1.alloc (.cells #[point1V g, point2V g] acrT) = V1 at *
 generalize w1.heap.size = xb at *
 refine (bitAcc_any at_ tu V1).mono ?_
 rintro e w2 ⟨rfl, b0, b1, hb2⟩
 obtain ⟨b, hbb⟩ : ∃ b, b = V1.heap.size := ⟨_, rfl⟩
 rw [← hbb] at b0 b1 ⊢
 have hbl : V1.heap.size ≤ b := Nat.le_of_eq hbb.symm
 clear hbb
 have hxb := row_lt HRX.out
 have hrx := (hb2.block _ hxb).trans HRX.out
 have y1 := row_setN (row_setN hrx 0 (bit1V b)) 1 (bit2V b)
 simp only [List.setIfInBounds_toArray, List.set_cons_zero, List.set_cons_succ] at y1
 have hks : ∀ k, k ≠ xb → ((w2.setCell ⟨xb, 0, none⟩ (bit1V b)).setCell ⟨xb, 1, none⟩ (bit2V b)).heap[k]? = w2.heap[k]? := fun k h => (Below.heap_setCell _ ⟨xb, 1, none⟩ _ k h).trans (Below.heap_setCell _ ⟨xb, 0, none⟩ _ k h)
 have c0 := (hks _ (by omega)).trans b0
 have c1 := (hks _ (by omega)).trans b1
 have x0 := (hks w.heap.size (by omega)).trans ((hb2.block _ (row_lt HX0.out)).trans HX0.out)
 have x1 := (hks (w.heap.size + 1) (by omega)).trans ((hb2.block _ (row_lt HX1.out)).trans HX1.out)
 have HB2 := Lib.hid (((HB1.out.trans (hb2.mono HB1.out.size)).setCell (p := ⟨xb, 0, none⟩) (by show w.heap.size ≤ xb; omega) (bit1V b)).setCell (p := ⟨xb, 1, none⟩) (by show w.heap.size ≤ xb; omega) (bit2V b))
 have HX2 := Lib.hid x0
 have HX3 := Lib.hid x1
 have HY1 := Lib.hid y1
 have HBX := Lib.hid (And.intro c0 c1)
 clear a0 a1 a2 a3 a4 a5 a6 m0 m1 mf
 obtain ⟨n0, n1⟩ := cellsA hrx
 have nf := row_free hrx
 obtain ⟨a0, a1, a2, a3, a4, a5, a6⟩ := cellsV x0
 obtain ⟨m0, m1⟩ := cellsA y1
 clear hb2 hrx y1 hks x0 x1 b0 b1 c0 c1
 go_wp2_with fail
 generalize (w2.setCell ⟨xb, 0, none⟩ (bit1V b)).setCell ⟨xb, 1, none⟩ (bit2V b) = V2 at *
 clear n0 n1 nf
 clear a0 a1 a2 a3 a4 a5 a6 m0 m1
 refine (HT.out V2).mono ?_
 rintro e w3 ⟨rfl, hb3⟩
 have x0 := (hb3.block _ (row_lt HX2.out)).trans HX2.out
 have x1 := (hb3.block _ (row_lt HX3.out)).trans HX3.out
 have y1 := (hb3.block _ (row_lt HY1.out)).trans HY1.out
 have HB3 := Lib.hid (HB2.out.trans (hb3.mono HB2.out.size))
 have HBX3 := Lib.hid (And.intro ((hb3.block _ (row_lt HBX.out.1)).trans HBX.out.1) ((hb3.block _ (row_lt HBX.out.2)).trans HBX.out.2))
 have HX4 := Lib.hid x1
 have HY4 := Lib.hid y1
 obtain ⟨a0, a1, a2, a3, a4, a5, a6⟩ := cellsV x0
 obtain ⟨m0, m1⟩ := cellsA y1
 obtain ⟨z0, z1⟩ := cellsA x1
 have zf := row_free x1
 clear hb3 x0 x1 y1
 go_wp2_with fail
 refine (told_any (bit1V b) (bit2V b) tg pl w3).mono ?_
 rintro e w4 ⟨rfl, t0, t1, t2, hb4⟩
 obtain ⟨c, hcc⟩ : ∃ c, c = w3.heap.size := ⟨_, rfl⟩
 rw [← hcc] at t0 t1 t2 ⊢
 have hcl : w3.heap.size ≤ c := Nat.le_of_eq hcc.symm
 clear hcc
 have h4 := (hb4.block _ (row_lt HX4.out)).trans HX4.out
 have hlt := row_lt HX4.out
 have z1 := row_setN (row_setN h4 0 (told1V c)) 1 (told2V c)
 simp only [List.setIfInBounds_toArray, List.set_cons_zero, List.set_cons_succ] at z1
 have hks : ∀ k, k ≠ w.heap.size + 1 → ((w4.setCell ⟨w.heap.size + 1, 0, none⟩ (told1V c)).setCell ⟨w.heap.size + 1, 1, none⟩ (told2V c)).heap[k]? = w4.heap[k]? := fun k h => (Below.heap_setCell _ ⟨w.heap.size + 1, 1, none⟩ _ k h).trans (Below.heap_setCell _ ⟨w.heap.size + 1, 0, none⟩ _ k h)
 have HF4 := Lib.hid (((HB3.out.trans (hb4.mono HB3.out.size)).setCell (p := ⟨w.heap.size + 1, 0, none⟩) (by show w.heap.size ≤ w.heap.size + 1; omega) (told1V c)).setCell (p := ⟨w.heap.size + 1, 1, none⟩) (by show w.heap.size ≤ w.heap.size + 1; omega) (told2V c))
 have hbn : w.heap.size + 2 ≤ b := by omega
 have HF := Lib.hid (And.intro ((hks _ (by omega)).trans t0) (And.intro ((hks _ (by omega)).trans t1) (And.intro ((hks _ (by omega)).trans t2) (And.intro ((hks _ (by omega)).trans ((hb4.block _ (row_lt HBX3.out.1)).trans HBX3.out.1)) (And.intro ((hks _ (by omega)).trans ((hb4.block _ (row_lt HBX3.out.2)).trans HBX3.out.2)) (HF4.out))))))
 have HZ1 := Lib.hid z1
 obtain ⟨k0, k1⟩ := cellsA h4
 have kf := row_free h4
 clear a0 a1 a2 a3 a4 a5 a6 m0 m1 z0 z1 zf t0 t1 t2 hb4 h4 hks
 go_wp2_with fail
 obtain ⟨e0, e1⟩ := cellsA HZ1.out
 exact bodyPost_ret (v := .agg #[told1V c, told2V c]) (by simp [results, Try.results28, go_sem, e0, e1]) rfl ⟨c, b, rfl, HF.out⟩
theorem acrOf_2n (nm : ByteArray) (at_ sz tu tg pl : Int) (w : World) (ht : tg < 0) :
 Calls Try.prog 28 #[accV nm 2 at_ sz tu tg pl] w fun e w' => ∃ b, e = .returned (.agg #[num1V b, num2V b]) ∧ w'.heap[b]? = some (.cells #[.int .i64 at_] 3 (0, 0)) ∧ w'.heap[b + 1]? = some (.cells #[.int .i64 sz] 3 (0, 0)) ∧ w'.heap[b + 2]? = some (.cells #[.int .i64 tu] 3 (0, 0)) ∧ Below w.heap.size w w' := by
 have HT := Lib.hid (fun W : World => isTagged_any nm 2 at_ sz tu tg pl W)
 have htd : decide (0 ≤ tg) = false := by simp; omega
 rw [htd] at HT
 unfold accV at HT ⊢
 have q0 := al_first w (.cells #[.string nm, .int .i64 2, .int .i64 at_, .int .i64 sz, .int .i64 tu, .int .i64 tg, .int .i64 pl] accT)
 have q1 := al_next q0 (.cells #[.nilFunc, .nilFunc] acrT)
 have r0 := heap_alloc_keep (heap_alloc_new w (.cells #[.string nm, .int .i64 2, .int .i64 at_, .int .i64 sz, .int .i64 tu, .int .i64 tg, .int .i64 pl] accT)) (.cells #[.nilFunc, .nilFunc] acrT)
 have r1 := al_row q0 #[.nilFunc, .nilFunc] acrT
 have HB0 := Lib.hid q1.2
 have HR0 := Lib.hid r0
 have HR1 := Lib.hid r1
 obtain ⟨a0, a1, a2, a3, a4, a5, a6⟩ := cellsV r0
 clear q1 q0 r0 r1 htd ht
 go_enter Try.func28, Try.ntmps28
 go_wp2_with fail
 generalize (w.alloc (.cells #[.string nm, .int .i64 2, .int .i64 at_, .int .i64 sz, .int .i64 tu, .int .i64 tg, .int .i64 pl] accT)).alloc (.cells #[.nilFunc, .nilFunc] acrT) = W at *
 refine (pointAcc_any at_ W).mono ?_
 rintro e w1 ⟨rfl, p0, hb1⟩
 obtain ⟨g, hg⟩ : ∃ g, g = W.heap.size := ⟨_, rfl⟩
 rw [← hg] at p0 ⊢
 have hgl : W.heap.size ≤ g := Nat.le_of_eq hg.symm
 clear hg
 have hw1 := row_lt HR1.out
 have hba := hb1.alloc hb1.size (.cells #[point1V g, point2V g] acrT)
 have rx := heap_alloc_new w1 (.cells #[point1V g, point2V g] acrT)
 have p1 := heap_alloc_keep p0 (.cells #[point1V g, point2V g] acrT)
 have x0 := (hba.block _ (row_lt HR0.out)).trans HR0.out
 have x1 := (hba.block _ (row_lt HR1.out)).trans HR1.out
 have HB1 := Lib.hid (HB0.out.trans (hba.mono HB0.out.size))
 have HX0 := Lib.hid x0
 have HX1 := Lib.hid x1
 have HP := Lib.hid p1
 have HRX := Lib.hid rx
 have hlx : w.heap.size + 2 ≤ w1.heap.size := by have := row_lt HR1.out; have := hb1.size; omega
 clear a0 a1 a2 a3 a4 a5 a6
 obtain ⟨a0, a1, a2, a3, a4, a5, a6⟩ := cellsV x0
 obtain ⟨m0, m1⟩ := cellsA rx
 have mf := row_free rx
 clear hb1 hba rx x0 x1 p0 p1
 go_wp2_with fail
 generalize w1.alloc (.cells #[point1V g, point2V g] acrT) = V1 at *
 generalize w1.heap.size = xb at *
 refine (numAcc_any at_ sz tu V1).mono ?_
 rintro e w2 ⟨rfl, b0, b1, b2, hb2⟩
 obtain ⟨b, hbb⟩ : ∃ b, b = V1.heap.size := ⟨_, rfl⟩
 rw [← hbb] at b0 b1 b2 ⊢
 have hbl : V1.heap.size ≤ b := Nat.le_of_eq hbb.symm
 clear hbb
 have hxb := row_lt HRX.out
 have hrx := (hb2.block _ hxb).trans HRX.out
 have y1 := row_setN (row_setN hrx 0 (num1V b)) 1 (num2V b)
 simp only [List.setIfInBounds_toArray, List.set_cons_zero, List.set_cons_succ] at y1
 have hks : ∀ k, k ≠ xb → ((w2.setCell ⟨xb, 0, none⟩ (num1V b)).setCell ⟨xb, 1, none⟩ (num2V b)).heap[k]? = w2.heap[k]? := fun k h => (Below.heap_setCell _ ⟨xb, 1, none⟩ _ k h).trans (Below.heap_setCell _ ⟨xb, 0, none⟩ _ k h)
 have c0 := (hks _ (by omega)).trans b0
 have c1 := (hks _ (by omega)).trans b1
 have c2 := (hks _ (by omega)).trans b2
 have x0 := (hks w.heap.size (by omega)).trans ((hb2.block _ (row_lt HX0.out)).trans HX0.out)
 have x1 := (hks (w.heap.size + 1) (by omega)).trans ((hb2.block _ (row_lt HX1.out)).trans HX1.out)
 have HB2 := Lib.hid (((HB1.out.trans (hb2.mono HB1.out.size)).setCell (p := ⟨xb, 0, none⟩) (by show w.heap.size ≤ xb; omega) (num1V b)).setCell (p := ⟨xb, 1, none⟩) (by show w.heap.size ≤ xb; omega) (num2V b))
 have HX2 := Lib.hid x0
 have HX3 := Lib.hid x1
 have HY1 := Lib.hid y1
 have HBX := Lib.hid (And.intro c0 (And.intro c1 c2))
 clear a0 a1 a2 a3 a4 a5 a6 m0 m1 mf
 obtain ⟨n0, n1⟩ := cellsA hrx
 have nf := row_free hrx
 obtain ⟨a0, a1, a2, a3, a4, a5, a6⟩ := cellsV x0
 obtain ⟨m0, m1⟩ := cellsA y1
 clear hb2 hrx y1 hks x0 x1 b0 b1 b2 c0 c1 c2
 go_wp2_with fail
 generalize (w2.setCell ⟨xb, 0, none⟩ (num1V b)).setCell ⟨xb, 1, none⟩ (num2V b) = V2 at *
 clear n0 n1 nf
 clear a0 a1 a2 a3 a4 a5 a6 m0 m1
 refine (HT.out V2).mono ?_
 rintro e w3 ⟨rfl, hb3⟩
 have x0 := (hb3.block _ (row_lt HX2.out)).trans HX2.out
 have x1 := (hb3.block _ (row_lt HX3.out)).trans HX3.out
 have y1 := (hb3.block _ (row_lt HY1.out)).trans HY1.out
 have HB3 := Lib.hid (HB2.out.trans (hb3.mono HB2.out.size))
 have HBX3 := Lib.hid (And.intro ((hb3.block _ (row_lt HBX.out.1)).trans HBX.out.1) (And.intro ((hb3.block _ (row_lt HBX.out.2.1)).trans HBX.out.2.1) ((hb3.block _ (row_lt HBX.out.2.2)).trans HBX.out.2.2)))
 have HX4 := Lib.hid x1
 have HY4 := Lib.hid y1
 obtain ⟨a0, a1, a2, a3, a4, a5, a6⟩ := cellsV x0
 obtain ⟨m0, m1⟩ := cellsA y1
 obtain ⟨z0, z1⟩ := cellsA x1
 have zf := row_free x1
 clear hb3 x0 x1 y1
 go_wp2_with fail
 have z1 := row_setN (row_setN HX4.out 0 (num1V b)) 1 (num2V b)
 simp only [List.setIfInBounds_toArray, List.set_cons_zero, List.set_cons_succ] at z1
 have hks : ∀ k, k ≠ w.heap.size + 1 → ((w3.setCell ⟨w.heap.size + 1, 0, none⟩ (num1V b)).setCell ⟨w.heap.size + 1, 1, none⟩ (num2V b)).heap[k]? = w3.heap[k]? := fun k h => (Below.heap_setCell _ ⟨w.heap.size + 1, 1, none⟩ _ k h).trans (Below.heap_setCell _ ⟨w.heap.size + 1, 0, none⟩ _ k h)
 have HF4 := Lib.hid ((HB3.out.setCell (p := ⟨w.heap.size + 1, 0, none⟩) (by show w.heap.size ≤ w.heap.size + 1; omega) (num1V b)).setCell (p := ⟨w.heap.size + 1, 1, none⟩) (by show w.heap.size ≤ w.heap.size + 1; omega) (num2V b))
 have hbn : w.heap.size + 2 ≤ b := by omega
 have HF := Lib.hid (And.intro ((hks _ (by omega)).trans HBX3.out.1) (And.intro ((hks _ (by omega)).trans HBX3.out.2.1) (And.intro ((hks _ (by omega)).trans HBX3.out.2.2) (HF4.out))))
 obtain ⟨e0, e1⟩ := cellsA z1
 exact bodyPost_ret (v := .agg #[num1V b, num2V b]) (by simp [results, Try.results28, go_sem, e0, e1]) rfl ⟨b, rfl, HF.out⟩
theorem acrOf_2t (nm : ByteArray) (at_ sz tu tg pl : Int) (w : World) (ht : 0 ≤ tg) :
 Calls Try.prog 28 #[accV nm 2 at_ sz tu tg pl] w fun e w' => ∃ c b, e = .returned (.agg #[told1V c, told2V c]) ∧ w'.heap[c]? = some (.cells #[num1V b, num2V b] acrT (0, 0)) ∧ w'.heap[c + 1]? = some (.cells #[.int .i64 tg] 3 (0, 0)) ∧ w'.heap[c + 2]? = some (.cells #[.int .i64 pl] 3 (0, 0)) ∧ w'.heap[b]? = some (.cells #[.int .i64 at_] 3 (0, 0)) ∧ w'.heap[b + 1]? = some (.cells #[.int .i64 sz] 3 (0, 0)) ∧ w'.heap[b + 2]? = some (.cells #[.int .i64 tu] 3 (0, 0)) ∧ Below w.heap.size w w' := by
 have HT := Lib.hid (fun W : World => isTagged_any nm 2 at_ sz tu tg pl W)
 have htd : decide (0 ≤ tg) = true := by simp; omega
 rw [htd] at HT
 unfold accV at HT ⊢
 have q0 := al_first w (.cells #[.string nm, .int .i64 2, .int .i64 at_, .int .i64 sz, .int .i64 tu, .int .i64 tg, .int .i64 pl] accT)
 have q1 := al_next q0 (.cells #[.nilFunc, .nilFunc] acrT)
 have r0 := heap_alloc_keep (heap_alloc_new w (.cells #[.string nm, .int .i64 2, .int .i64 at_, .int .i64 sz, .int .i64 tu, .int .i64 tg, .int .i64 pl] accT)) (.cells #[.nilFunc, .nilFunc] acrT)
 have r1 := al_row q0 #[.nilFunc, .nilFunc] acrT
 have HB0 := Lib.hid q1.2
 have HR0 := Lib.hid r0
 have HR1 := Lib.hid r1
 obtain ⟨a0, a1, a2, a3, a4, a5, a6⟩ := cellsV r0
 clear q1 q0 r0 r1 htd ht
 go_enter Try.func28, Try.ntmps28
 go_wp2_with fail
 generalize (w.alloc (.cells #[.string nm, .int .i64 2, .int .i64 at_, .int .i64 sz, .int .i64 tu, .int .i64 tg, .int .i64 pl] accT)).alloc (.cells #[.nilFunc, .nilFunc] acrT) = W at *
 refine (pointAcc_any at_ W).mono ?_
 rintro e w1 ⟨rfl, p0, hb1⟩
 obtain ⟨g, hg⟩ : ∃ g, g = W.heap.size := ⟨_, rfl⟩
 rw [← hg] at p0 ⊢
 have hgl : W.heap.size ≤ g := Nat.le_of_eq hg.symm
 clear hg
 have hw1 := row_lt HR1.out
 have hba := hb1.alloc hb1.size (.cells #[point1V g, point2V g] acrT)
 have rx := heap_alloc_new w1 (.cells #[point1V g, point2V g] acrT)
 have p1 := heap_alloc_keep p0 (.cells #[point1V g, point2V g] acrT)
 have x0 := (hba.block _ (row_lt HR0.out)).trans HR0.out
 have x1 := (hba.block _ (row_lt HR1.out)).trans HR1.out
 have HB1 := Lib.hid (HB0.out.trans (hba.mono HB0.out.size))
 have HX0 := Lib.hid x0
 have HX1 := Lib.hid x1
 have HP := Lib.hid p1
 have HRX := Lib.hid rx
 have hlx : w.heap.size + 2 ≤ w1.heap.size := by have := row_lt HR1.out; have := hb1.size; omega
 clear a0 a1 a2 a3 a4 a5 a6
 obtain ⟨a0, a1, a2, a3, a4, a5, a6⟩ := cellsV x0
 obtain ⟨m0, m1⟩ := cellsA rx
 have mf := row_free rx
 clear hb1 hba rx x0 x1 p0 p1
 go_wp2_with fail
 generalize w1.alloc (.cells #[point1V g, point2V g] acrT) = V1 at *
 generalize w1.heap.size = xb at *
 refine (numAcc_any at_ sz tu V1).mono ?_
 rintro e w2 ⟨rfl, b0, b1, b2, hb2⟩
 obtain ⟨b, hbb⟩ : ∃ b, b = V1.heap.size := ⟨_, rfl⟩
 rw [← hbb] at b0 b1 b2 ⊢
 have hbl : V1.heap.size ≤ b := Nat.le_of_eq hbb.symm
 clear hbb
 have hxb := row_lt HRX.out
 have hrx := (hb2.block _ hxb).trans HRX.out
 have y1 := row_setN (row_setN hrx 0 (num1V b)) 1 (num2V b)
 simp only [List.setIfInBounds_toArray, List.set_cons_zero, List.set_cons_succ] at y1
 have hks : ∀ k, k ≠ xb → ((w2.setCell ⟨xb, 0, none⟩ (num1V b)).setCell ⟨xb, 1, none⟩ (num2V b)).heap[k]? = w2.heap[k]? := fun k h => (Below.heap_setCell _ ⟨xb, 1, none⟩ _ k h).trans (Below.heap_setCell _ ⟨xb, 0, none⟩ _ k h)
 have c0 := (hks _ (by omega)).trans b0
 have c1 := (hks _ (by omega)).trans b1
 have c2 := (hks _ (by omega)).trans b2
 have x0 := (hks w.heap.size (by omega)).trans ((hb2.block _ (row_lt HX0.out)).trans HX0.out)
 have x1 := (hks (w.heap.size + 1) (by omega)).trans ((hb2.block _ (row_lt HX1.out)).trans HX1.out)
 have HB2 := Lib.hid (((HB1.out.trans (hb2.mono HB1.out.size)).setCell (p := ⟨xb, 0, none⟩) (by show w.heap.size ≤ xb; omega) (num1V b)).setCell (p := ⟨xb, 1, none⟩) (by show w.heap.size ≤ xb; omega) (num2V b))
 have HX2 := Lib.hid x0
 have HX3 := Lib.hid x1
 have HY1 := Lib.hid y1
 have HBX := Lib.hid (And.intro c0 (And.intro c1 c2))
 clear a0 a1 a2 a3 a4 a5 a6 m0 m1 mf
 obtain ⟨n0, n1⟩ := cellsA hrx
 have nf := row_free hrx
 obtain ⟨a0, a1, a2, a3, a4, a5, a6⟩ := cellsV x0
 obtain ⟨m0, m1⟩ := cellsA y1
 clear hb2 hrx y1 hks x0 x1 b0 b1 b2 c0 c1 c2
 go_wp2_with fail
 generalize (w2.setCell ⟨xb, 0, none⟩ (num1V b)).setCell ⟨xb, 1, none⟩ (num2V b) = V2 at *
 clear n0 n1 nf
 clear a0 a1 a2 a3 a4 a5 a6 m0 m1
 refine (HT.out V2).mono ?_
 rintro e w3 ⟨rfl, hb3⟩
 have x0 := (hb3.block _ (row_lt HX2.out)).trans HX2.out
 have x1 := (hb3.block _ (row_lt HX3.out)).trans HX3.out
 have y1 := (hb3.block _ (row_lt HY1.out)).trans HY1.out
 have HB3 := Lib.hid (HB2.out.trans (hb3.mono HB2.out.size))
 have HBX3 := Lib.hid (And.intro ((hb3.block _ (row_lt HBX.out.1)).trans HBX.out.1) (And.intro ((hb3.block _ (row_lt HBX.out.2.1)).trans HBX.out.2.1) ((hb3.block _ (row_lt HBX.out.2.2)).trans HBX.out.2.2)))
 have HX4 := Lib.hid x1
 have HY4 := Lib.hid y1
 obtain ⟨a0, a1, a2, a3, a4, a5, a6⟩ := cellsV x0
 obtain ⟨m0, m1⟩ := cellsA y1
 obtain ⟨z0, z1⟩ := cellsA x1
 have zf := row_free x1
 clear hb3 x0 x1 y1
 go_wp2_with fail
 refine (told_any (num1V b) (num2V b) tg pl w3).mono ?_
 rintro e w4 ⟨rfl, t0, t1, t2, hb4⟩
 obtain ⟨c, hcc⟩ : ∃ c, c = w3.heap.size := ⟨_, rfl⟩
 rw [← hcc] at t0 t1 t2 ⊢
 have hcl : w3.heap.size ≤ c := Nat.le_of_eq hcc.symm
 clear hcc
 have h4 := (hb4.block _ (row_lt HX4.out)).trans HX4.out
 have hlt := row_lt HX4.out
 have z1 := row_setN (row_setN h4 0 (told1V c)) 1 (told2V c)
 simp only [List.setIfInBounds_toArray, List.set_cons_zero, List.set_cons_succ] at z1
 have hks : ∀ k, k ≠ w.heap.size + 1 → ((w4.setCell ⟨w.heap.size + 1, 0, none⟩ (told1V c)).setCell ⟨w.heap.size + 1, 1, none⟩ (told2V c)).heap[k]? = w4.heap[k]? := fun k h => (Below.heap_setCell _ ⟨w.heap.size + 1, 1, none⟩ _ k h).trans (Below.heap_setCell _ ⟨w.heap.size + 1, 0, none⟩ _ k h)
 have HF4 := Lib.hid (((HB3.out.trans (hb4.mono HB3.out.size)).setCell (p := ⟨w.heap.size + 1, 0, none⟩) (by show w.heap.size ≤ w.heap.size + 1; omega) (told1V c)).setCell (p := ⟨w.heap.size + 1, 1, none⟩) (by show w.heap.size ≤ w.heap.size + 1; omega) (told2V c))
 have hbn : w.heap.size + 2 ≤ b := by omega
 have HF := Lib.hid (And.intro ((hks _ (by omega)).trans t0) (And.intro ((hks _ (by omega)).trans t1) (And.intro ((hks _ (by omega)).trans t2) (And.intro ((hks _ (by omega)).trans ((hb4.block _ (row_lt HBX3.out.1)).trans HBX3.out.1)) (And.intro ((hks _ (by omega)).trans ((hb4.block _ (row_lt HBX3.out.2.1)).trans HBX3.out.2.1)) (And.intro ((hks _ (by omega)).trans ((hb4.block _ (row_lt HBX3.out.2.2)).trans HBX3.out.2.2)) (HF4.out)))))))
 have HZ1 := Lib.hid z1
 obtain ⟨k0, k1⟩ := cellsA h4
 have kf := row_free h4
 clear a0 a1 a2 a3 a4 a5 a6 m0 m1 z0 z1 zf t0 t1 t2 hb4 h4 hks
 go_wp2_with fail
 obtain ⟨e0, e1⟩ := cellsA HZ1.out
 exact bodyPost_ret (v := .agg #[told1V c, told2V c]) (by simp [results, Try.results28, go_sem, e0, e1]) rfl ⟨c, b, rfl, HF.out⟩
theorem acrOf_3n (nm : ByteArray) (at_ sz tu tg pl : Int) (w : World) (ht : tg < 0) :
 Calls Try.prog 28 #[accV nm 3 at_ sz tu tg pl] w fun e w' => ∃ b, e = .returned (.agg #[point1V b, point2V b]) ∧ w'.heap[b]? = some (.cells #[.int .i64 at_] 3 (0, 0)) ∧ Below w.heap.size w w' := by
 have HT := Lib.hid (fun W : World => isTagged_any nm 3 at_ sz tu tg pl W)
 have htd : decide (0 ≤ tg) = false := by simp; omega
 rw [htd] at HT
 unfold accV at HT ⊢
 have q0 := al_first w (.cells #[.string nm, .int .i64 3, .int .i64 at_, .int .i64 sz, .int .i64 tu, .int .i64 tg, .int .i64 pl] accT)
 have q1 := al_next q0 (.cells #[.nilFunc, .nilFunc] acrT)
 have r0 := heap_alloc_keep (heap_alloc_new w (.cells #[.string nm, .int .i64 3, .int .i64 at_, .int .i64 sz, .int .i64 tu, .int .i64 tg, .int .i64 pl] accT)) (.cells #[.nilFunc, .nilFunc] acrT)
 have r1 := al_row q0 #[.nilFunc, .nilFunc] acrT
 have HB0 := Lib.hid q1.2
 have HR0 := Lib.hid r0
 have HR1 := Lib.hid r1
 obtain ⟨a0, a1, a2, a3, a4, a5, a6⟩ := cellsV r0
 clear q1 q0 r0 r1 htd ht
 go_enter Try.func28, Try.ntmps28
 go_wp2_with fail
 generalize (w.alloc (.cells #[.string nm, .int .i64 3, .int .i64 at_, .int .i64 sz, .int .i64 tu, .int .i64 tg, .int .i64 pl] accT)).alloc (.cells #[.nilFunc, .nilFunc] acrT) = W at *
 refine (pointAcc_any at_ W).mono ?_
 rintro e w1 ⟨rfl, p0, hb1⟩
 obtain ⟨g, hg⟩ : ∃ g, g = W.heap.size := ⟨_, rfl⟩
 rw [← hg] at p0 ⊢
 have hgl : W.heap.size ≤ g := Nat.le_of_eq hg.symm
 clear hg
 have hw1 := row_lt HR1.out
 have hba := hb1.alloc hb1.size (.cells #[point1V g, point2V g] acrT)
 have rx := heap_alloc_new w1 (.cells #[point1V g, point2V g] acrT)
 have p1 := heap_alloc_keep p0 (.cells #[point1V g, point2V g] acrT)
 have x0 := (hba.block _ (row_lt HR0.out)).trans HR0.out
 have x1 := (hba.block _ (row_lt HR1.out)).trans HR1.out
 have HB1 := Lib.hid (HB0.out.trans (hba.mono HB0.out.size))
 have HX0 := Lib.hid x0
 have HX1 := Lib.hid x1
 have HP := Lib.hid p1
 have HRX := Lib.hid rx
 have hlx : w.heap.size + 2 ≤ w1.heap.size := by have := row_lt HR1.out; have := hb1.size; omega
 clear a0 a1 a2 a3 a4 a5 a6
 obtain ⟨a0, a1, a2, a3, a4, a5, a6⟩ := cellsV x0
 obtain ⟨m0, m1⟩ := cellsA rx
 have mf := row_free rx
 clear hb1 hba rx x0 x1 p0 p1
 go_wp2_with fail
 generalize w1.alloc (.cells #[point1V g, point2V g] acrT) = V1 at *
 generalize w1.heap.size = xb at *
 obtain ⟨b, rfl⟩ : ∃ b, b = g := ⟨_, rfl⟩
 have HB2 := HB1
 have HX2 := HX0
 have HX3 := HX1
 have HY1 := HRX
 have HBX := HP
 clear HB1 HX0 HX1 HRX HP
 obtain ⟨V2, rfl⟩ : ∃ V2, V2 = V1 := ⟨_, rfl⟩
 clear a0 a1 a2 a3 a4 a5 a6 m0 m1
 refine (HT.out V2).mono ?_
 rintro e w3 ⟨rfl, hb3⟩
 have x0 := (hb3.block _ (row_lt HX2.out)).trans HX2.out
 have x1 := (hb3.block _ (row_lt HX3.out)).trans HX3.out
 have y1 := (hb3.block _ (row_lt HY1.out)).trans HY1.out
 have HB3 := Lib.hid (HB2.out.trans (hb3.mono HB2.out.size))
 have HBX3 := Lib.hid ((hb3.block _ (row_lt HBX.out)).trans HBX.out)
 have HX4 := Lib.hid x1
 have HY4 := Lib.hid y1
 obtain ⟨a0, a1, a2, a3, a4, a5, a6⟩ := cellsV x0
 obtain ⟨m0, m1⟩ := cellsA y1
 obtain ⟨z0, z1⟩ := cellsA x1
 have zf := row_free x1
 clear hb3 x0 x1 y1
 go_wp2_with fail
 have z1 := row_setN (row_setN HX4.out 0 (point1V b)) 1 (point2V b)
 simp only [List.setIfInBounds_toArray, List.set_cons_zero, List.set_cons_succ] at z1
 have hks : ∀ k, k ≠ w.heap.size + 1 → ((w3.setCell ⟨w.heap.size + 1, 0, none⟩ (point1V b)).setCell ⟨w.heap.size + 1, 1, none⟩ (point2V b)).heap[k]? = w3.heap[k]? := fun k h => (Below.heap_setCell _ ⟨w.heap.size + 1, 1, none⟩ _ k h).trans (Below.heap_setCell _ ⟨w.heap.size + 1, 0, none⟩ _ k h)
 have HF4 := Lib.hid ((HB3.out.setCell (p := ⟨w.heap.size + 1, 0, none⟩) (by show w.heap.size ≤ w.heap.size + 1; omega) (point1V b)).setCell (p := ⟨w.heap.size + 1, 1, none⟩) (by show w.heap.size ≤ w.heap.size + 1; omega) (point2V b))
 have hbn : w.heap.size + 2 ≤ b := by omega
 have HF := Lib.hid (And.intro ((hks _ (by omega)).trans HBX3.out) (HF4.out))
 obtain ⟨e0, e1⟩ := cellsA z1
 exact bodyPost_ret (v := .agg #[point1V b, point2V b]) (by simp [results, Try.results28, go_sem, e0, e1]) rfl ⟨b, rfl, HF.out⟩
theorem acrOf_3t (nm : ByteArray) (at_ sz tu tg pl : Int) (w : World) (ht : 0 ≤ tg) :
 Calls Try.prog 28 #[accV nm 3 at_ sz tu tg pl] w fun e w' => ∃ c b, e = .returned (.agg #[told1V c, told2V c]) ∧ w'.heap[c]? = some (.cells #[point1V b, point2V b] acrT (0, 0)) ∧ w'.heap[c + 1]? = some (.cells #[.int .i64 tg] 3 (0, 0)) ∧ w'.heap[c + 2]? = some (.cells #[.int .i64 pl] 3 (0, 0)) ∧ w'.heap[b]? = some (.cells #[.int .i64 at_] 3 (0, 0)) ∧ Below w.heap.size w w' := by
 have HT := Lib.hid (fun W : World => isTagged_any nm 3 at_ sz tu tg pl W)
 have htd : decide (0 ≤ tg) = true := by simp; omega
 rw [htd] at HT
 unfold accV at HT ⊢
 have q0 := al_first w (.cells #[.string nm, .int .i64 3, .int .i64 at_, .int .i64 sz, .int .i64 tu, .int .i64 tg, .int .i64 pl] accT)
 have q1 := al_next q0 (.cells #[.nilFunc, .nilFunc] acrT)
 have r0 := heap_alloc_keep (heap_alloc_new w (.cells #[.string nm, .int .i64 3, .int .i64 at_, .int .i64 sz, .int .i64 tu, .int .i64 tg, .int .i64 pl] accT)) (.cells #[.nilFunc, .nilFunc] acrT)
 have r1 := al_row q0 #[.nilFunc, .nilFunc] acrT
 have HB0 := Lib.hid q1.2
 have HR0 := Lib.hid r0
 have HR1 := Lib.hid r1
 obtain ⟨a0, a1, a2, a3, a4, a5, a6⟩ := cellsV r0
 clear q1 q0 r0 r1 htd ht
 go_enter Try.func28, Try.ntmps28
 go_wp2_with fail
 generalize (w.alloc (.cells #[.string nm, .int .i64 3, .int .i64 at_, .int .i64 sz, .int .i64 tu, .int .i64 tg, .int .i64 pl] accT)).alloc (.cells #[.nilFunc, .nilFunc] acrT) = W at *
 refine (pointAcc_any at_ W).mono ?_
 rintro e w1 ⟨rfl, p0, hb1⟩
 obtain ⟨g, hg⟩ : ∃ g, g = W.heap.size := ⟨_, rfl⟩
 rw [← hg] at p0 ⊢
 have hgl : W.heap.size ≤ g := Nat.le_of_eq hg.symm
 clear hg
 have hw1 := row_lt HR1.out
 have hba := hb1.alloc hb1.size (.cells #[point1V g, point2V g] acrT)
 have rx := heap_alloc_new w1 (.cells #[point1V g, point2V g] acrT)
 have p1 := heap_alloc_keep p0 (.cells #[point1V g, point2V g] acrT)
 have x0 := (hba.block _ (row_lt HR0.out)).trans HR0.out
 have x1 := (hba.block _ (row_lt HR1.out)).trans HR1.out
 have HB1 := Lib.hid (HB0.out.trans (hba.mono HB0.out.size))
 have HX0 := Lib.hid x0
 have HX1 := Lib.hid x1
 have HP := Lib.hid p1
 have HRX := Lib.hid rx
 have hlx : w.heap.size + 2 ≤ w1.heap.size := by have := row_lt HR1.out; have := hb1.size; omega
 clear a0 a1 a2 a3 a4 a5 a6
 obtain ⟨a0, a1, a2, a3, a4, a5, a6⟩ := cellsV x0
 obtain ⟨m0, m1⟩ := cellsA rx
 have mf := row_free rx
 clear hb1 hba rx x0 x1 p0 p1
 go_wp2_with fail
 generalize w1.alloc (.cells #[point1V g, point2V g] acrT) = V1 at *
 generalize w1.heap.size = xb at *
 obtain ⟨b, rfl⟩ : ∃ b, b = g := ⟨_, rfl⟩
 have HB2 := HB1
 have HX2 := HX0
 have HX3 := HX1
 have HY1 := HRX
 have HBX := HP
 clear HB1 HX0 HX1 HRX HP
 obtain ⟨V2, rfl⟩ : ∃ V2, V2 = V1 := ⟨_, rfl⟩
 clear a0 a1 a2 a3 a4 a5 a6 m0 m1
 refine (HT.out V2).mono ?_
 rintro e w3 ⟨rfl, hb3⟩
 have x0 := (hb3.block _ (row_lt HX2.out)).trans HX2.out
 have x1 := (hb3.block _ (row_lt HX3.out)).trans HX3.out
 have y1 := (hb3.block _ (row_lt HY1.out)).trans HY1.out
 have HB3 := Lib.hid (HB2.out.trans (hb3.mono HB2.out.size))
 have HBX3 := Lib.hid ((hb3.block _ (row_lt HBX.out)).trans HBX.out)
 have HX4 := Lib.hid x1
 have HY4 := Lib.hid y1
 obtain ⟨a0, a1, a2, a3, a4, a5, a6⟩ := cellsV x0
 obtain ⟨m0, m1⟩ := cellsA y1
 obtain ⟨z0, z1⟩ := cellsA x1
 have zf := row_free x1
 clear hb3 x0 x1 y1
 go_wp2_with fail
 refine (told_any (point1V b) (point2V b) tg pl w3).mono ?_
 rintro e w4 ⟨rfl, t0, t1, t2, hb4⟩
 obtain ⟨c, hcc⟩ : ∃ c, c = w3.heap.size := ⟨_, rfl⟩
 rw [← hcc] at t0 t1 t2 ⊢
 have hcl : w3.heap.size ≤ c := Nat.le_of_eq hcc.symm
 clear hcc
 have h4 := (hb4.block _ (row_lt HX4.out)).trans HX4.out
 have hlt := row_lt HX4.out
 have z1 := row_setN (row_setN h4 0 (told1V c)) 1 (told2V c)
 simp only [List.setIfInBounds_toArray, List.set_cons_zero, List.set_cons_succ] at z1
 have hks : ∀ k, k ≠ w.heap.size + 1 → ((w4.setCell ⟨w.heap.size + 1, 0, none⟩ (told1V c)).setCell ⟨w.heap.size + 1, 1, none⟩ (told2V c)).heap[k]? = w4.heap[k]? := fun k h => (Below.heap_setCell _ ⟨w.heap.size + 1, 1, none⟩ _ k h).trans (Below.heap_setCell _ ⟨w.heap.size + 1, 0, none⟩ _ k h)
 have HF4 := Lib.hid (((HB3.out.trans (hb4.mono HB3.out.size)).setCell (p := ⟨w.heap.size + 1, 0, none⟩) (by show w.heap.size ≤ w.heap.size + 1; omega) (told1V c)).setCell (p := ⟨w.heap.size + 1, 1, none⟩) (by show w.heap.size ≤ w.heap.size + 1; omega) (told2V c))
 have hbn : w.heap.size + 2 ≤ b := by omega
 have HF := Lib.hid (And.intro ((hks _ (by omega)).trans t0) (And.intro ((hks _ (by omega)).trans t1) (And.intro ((hks _ (by omega)).trans t2) (And.intro ((hks _ (by omega)).trans ((hb4.block _ (row_lt HBX3.out)).trans HBX3.out)) (HF4.out)))))
 have HZ1 := Lib.hid z1
 obtain ⟨k0, k1⟩ := cellsA h4
 have kf := row_free h4
 clear a0 a1 a2 a3 a4 a5 a6 m0 m1 z0 z1 zf t0 t1 t2 hb4 h4 hks
 go_wp2_with fail
 obtain ⟨e0, e1⟩ := cellsA HZ1.out
 exact bodyPost_ret (v := .agg #[told1V c, told2V c]) (by simp [results, Try.results28, go_sem, e0, e1]) rfl ⟨c, b, rfl, HF.out⟩
end Go.Proofs.Ytfnecflkahmjoaa
namespace Go.Proofs.Ytfnecflkahmjoaa
open Go.RowKit
theorem put_any (l : List UInt8) (at_ size n : Int) (w : World) (hl : l.length = 8) (h0 : 0 ≤ at_) (h1 : 0 ≤ size) (h2 : at_ + size ≤ 8) (hn0 : 0 ≤ n) (hn1 : n < 18446744073709551616) :
 Calls Try.prog 93 #[.agg (wd l), .int .i64 at_, .int .i64 size, .int .u64 n] w fun e w' => e = .returned (.agg (wd (putL l at_.toNat (leB n size.toNat)))) ∧ Below w.heap.size w w' := by
 obtain ⟨a, rfl⟩ := Int.eq_ofNat_of_zero_le h0
 obtain ⟨z, rfl⟩ := Int.eq_ofNat_of_zero_le h1
 have HL := Lib.hid hl
 clear hl
 go_enter Try.func93, Try.ntmps93
 go_wp2
 go_loopw [3, 9] (fun m i wr => ∃ k : Nat, k ≤ z ∧ i = .int .i64 ((a : Int) + k) ∧ m = .int .u64 (shr8 n k) ∧ Hid (wr.heap[w.heap.size]? = some (.cells (wd (putL l a (leB n k))) 89 (0, 0))) ∧ Hid (wr.heap[w.heap.size + 1]? = some (.cells #[.int .u8 0, .int .u8 0, .int .u8 0, .int .u8 0, .int .u8 0, .int .u8 0, .int .u8 0, .int .u8 0] 89 (0, 0))) ∧ Hid (Below w.heap.size w wr)) (fun _ i _ => (a + z - intOf i).toNat)
 case atStart =>
  refine ⟨0, by omega, by simp, rfl, ?_, ?_, ?_⟩
  · rw [leB, putL_nil]; exact heap_alloc2_old w _ _
  · exact heap_alloc2_new w _ _
  · exact ((Below.refl _ _).alloc (Nat.le_refl _) _).alloc (by simp) _
 case round =>
  obtain ⟨k, hk, rfl, rfl, HW, HZ, HB⟩ := hrel
  have hbd := shr8_bd n k hn0 hn1
  obtain ⟨hb0, hb1⟩ := hbd
  by_cases hlt : k < z
  · have hcell := wd_cell_row HW.out (a + k) (by rw [putL_length _ _ _ (by rw [leB_length, HL.out]; omega), HL.out]; omega)
    have hfr := frozen_row HW.out (a + k)
    go_wp2
    go_roundw
    case rel =>
     exact ⟨k + 1, by omega, by go_num, rfl, put_step l a n k (by rw [HL.out]; omega) HW.out, heap_set_far _ (by omega) HZ.out, HB.out.setCell (Nat.le_refl _) _⟩
    case measure => simp [intOf]; omega
  · obtain rfl : k = z := by omega
    have hpl : (putL l a (leB n k)).length = 8 := by rw [putL_length _ _ _ (by rw [leB_length, HL.out]; omega), HL.out]
    have HP := Lib.hid hpl
    clear hpl
    go_wp2_with (first | (refine wpList_load_wd rfl 89 (.tmp 4) rfl w.heap.size rfl 89 _ _ HW.out Try.underlying89 rfl (by rw [HP.out]; exact size46) ?_) | (refine wpList_store_wd rfl 89 (.tmp 8) (.tmp 24) rfl (w.heap.size + 1) _ rfl rfl 89 _ HZ.out (by rw [HP.out]; exact size46) (by rw [HP.out]; rfl) ?_; intro w5 hg5 hb5))
    refine bodyPost_ret (v := .agg (wd (putL l a (leB n k)))) ?_ rfl ⟨by simp, HB.out.grown hb5.out (by have := HB.out.size; omega) (fun k e => by cases e; simp)⟩
    exact results_cell_row rfl _ _ (w.heap.size + 1) 89 _ (0, 0) _ rfl hg5.out Try.underlying89 rfl (by rw [wd_size, HP.out]; exact size46)
theorem text_any (l : List UInt8) (w : World) (hl : l.length = 8) :
 Calls Try.prog 98 #[.agg (wd l)] w fun e w' => e = .returned (.string ⟨l.toArray⟩) ∧ Below w.heap.size w w' := by
 have hrow := heap_alloc_new w (.cells (wd l) 89)
 have hcv : (convert 82 9 (.slice (some ⟨w.heap.size, 0, none⟩) 8 8)).run Try.prog (w.alloc (.cells (wd l) 89)) = .ok (.string ⟨l.toArray⟩) (w.alloc (.cells (wd l) 89)) := by
  exact convert_wd _ _ _ _ _ _ 8 l hl Try.underlying82 Try.underlying5 Try.underlying9 hrow (by rw [List.take_of_length_le (by simp [wd, Lib.byteCells_length, hl])]; simp [wd])
 have HL := Lib.hid hl
 clear hl hrow
 go_enter Try.func98, Try.ntmps98
 go_wp2
 go_ret
 exact ⟨rfl, (Below.refl _ _).alloc (Nat.le_refl _) _⟩
theorem text_lit (b0 b1 b2 b3 b4 b5 b6 b7 : UInt8) (w : World) :
 Calls Try.prog 98 #[.agg #[.int .u8 b0.toNat, .int .u8 b1.toNat, .int .u8 b2.toNat, .int .u8 b3.toNat, .int .u8 b4.toNat, .int .u8 b5.toNat, .int .u8 b6.toNat, .int .u8 b7.toNat]] w fun e w' =>
  e = .returned (.string ⟨#[b0, b1, b2, b3, b4, b5, b6, b7]⟩) ∧ Below w.heap.size w w' := text_any [b0, b1, b2, b3, b4, b5, b6, b7] w rfl
theorem ba_append (a b : ByteArray) : (a ++ b).data.toList = a.data.toList ++ b.data.toList := by simp
theorem put_string (s : ByteArray) (a : Nat) (l : List UInt8) (n : Nat) (hn : l.length = n) (h : a + n ≤ s.size) :
 s.extract 0 a ++ ⟨l.toArray⟩ ++ s.extract (a + n) s.size = ⟨(putL s.data.toList a l).toArray⟩ := by
 subst hn
 apply ext_ba
 rw [ba_append, ba_append, Lib.extract_data, Lib.extract_data]
 simp [putL, List.take_of_length_le]
theorem withWord_any (s : ByteArray) (i : Int) (l : List UInt8) (w : World) (hs : s.size ≤ maxLen) (h0 : 0 ≤ i) (hi : 8 * i + 8 ≤ s.size) (hl : l.length = 8) :
 Calls Try.prog 90 #[.string s, .int .i64 i, .agg (wd l)] w fun e w' => e = .returned (.string ⟨(putL s.data.toList (8 * i.toNat) l).toArray⟩) ∧ Below w.heap.size w w' := by
 obtain ⟨i, rfl⟩ := Int.eq_ofNat_of_zero_le h0
 unfold maxLen at hs
 obtain ⟨b0, b1, b2, b3, b4, b5, b6, b7, rfl⟩ := len8 hl
 have hfin := put_string s (8 * (i : Int).toNat) [b0, b1, b2, b3, b4, b5, b6, b7] 8 rfl (by omega)
 rw [← hfin, wd8, show 8 * (i : Int).toNat = i * 8 by omega]
 clear hfin hl
 have e1 : IntKind.i64.wrap ((i : Int) * 8) = (i : Int) * 8 := by rw [IntKind.wrap_i64]; omega
 have e2 : (0 : Int) ≤ (i : Int) * 8 := by omega
 have e3 : (i : Int) * 8 ≤ (s.size : Int) := by omega
 have e4 : ((i : Int) * 8).toNat = i * 8 := by omega
 have e5 : IntKind.i64.wrap ((i : Int) * 8 + 8) = (i : Int) * 8 + 8 := by rw [IntKind.wrap_i64]; omega
 have e6 : (0 : Int) ≤ (i : Int) * 8 + 8 := by omega
 have e7 : (i : Int) * 8 + 8 ≤ (s.size : Int) := by omega
 have e8 : ((i : Int) * 8 + 8).toNat = i * 8 + 8 := by omega
 have em : min (i * 8) s.size = i * 8 := by omega
 have f1 : ¬ 9223372036854775807 < i * 8 + 8 := by omega
 have f2 : ¬ 9223372036854775807 < i * 8 + 8 + (s.size - (i * 8 + 8)) := by omega
 go_enter Try.func90, Try.ntmps90
 go_wp2
 go_region_law (first | (go_simp; go_at_call 98; refine (text_lit _ _ _ _ _ _ _ _ _).mono ?_; rintro e w5 ⟨rfl, hb5⟩))
 all_goals
  clear e1 e2 e3 e4 e5 e6 e7 e8 em f1 f2
  have hB : Hid (Below w.heap.size w w5) := ((Below.refl w.heap.size w).alloc (Nat.le_refl _) _).drew.trans (hb5.mono (by simp))
  clear hb5
  go_wp2
  go_ret
  exact ⟨rfl, hB.out⟩
theorem leB_mod (n m : Int) : ∀ (k : Nat) (c : Int), n = m + c * 256 ^ k → leB n k = leB m k
 | 0, _, _ => rfl
 | k + 1, c, h => by
   have e : n = m + 256 * (c * 256 ^ k) := by rw [h, Int.pow_succ, Int.mul_comm (256 ^ k) 256, ← Int.mul_assoc, Int.mul_comm c 256, Int.mul_assoc]
   rw [leB, leB, leB_mod (n / 256) (m / 256) k c (by omega), show n % 256 = m % 256 by omega]
theorem leB_u64 (n : Int) (k : Nat) (hk : k ≤ 8) : leB (IntKind.u64.wrap n) k = leB n k := by
 rw [IntKind.wrap_u64]
 obtain ⟨j, hj⟩ : ∃ j, 8 = k + j := ⟨8 - k, by omega⟩
 refine (leB_mod n _ k (n / 18446744073709551616 * 256 ^ j) ?_).symm
 have h8 : (18446744073709551616 : Int) = 256 ^ j * 256 ^ k := by
  rw [← Int.pow_add, show j + k = 8 by omega]; rfl
 rw [Int.mul_assoc, ← h8]
 omega
theorem putL_word (l : List UInt8) (q r : Nat) (xs : List UInt8) (h1 : r + xs.length ≤ 8) (h2 : 8 * q + 8 ≤ l.length) :
 putL l (8 * q) (putL ((l.drop (8 * q)).take 8) r xs) = putL l (8 * q + r) xs := by
 have hl : ((l.drop (8 * q)).take 8).length = 8 := by simp; omega
 have hp : (putL ((l.drop (8 * q)).take 8) r xs).length = 8 := by rw [putL_length _ _ _ (by omega), hl]
 rw [putL, hp, putL, putL]
 have e1 : l.take (8 * q) ++ ((l.drop (8 * q)).take 8).take r = l.take (8 * q + r) := by
  rw [List.take_take, Nat.min_eq_left (by omega), ← List.take_add]
 have e2 : ((l.drop (8 * q)).take 8).drop (r + xs.length) ++ l.drop (8 * q + 8) = l.drop (8 * q + r + xs.length) := by
  have h := List.take_append_drop (8 - (r + xs.length)) (l.drop (8 * q + r + xs.length))
  rw [List.drop_drop, show 8 * q + r + xs.length + (8 - (r + xs.length)) = 8 * q + 8 by omega] at h
  rw [List.drop_take, List.drop_drop, show 8 * q + (r + xs.length) = 8 * q + r + xs.length by omega]
  exact h
 simp only [← List.append_assoc]
 rw [e1]
 simp only [List.append_assoc]
 rw [e2]
def putOk (l : List UInt8) (at_ size n : Int) : Bool := placeB at_ size && (decide (at_ < l.length) && fitsB n size)
def putT (l : List UInt8) (at_ size n : Int) : List UInt8 := if wordsB l.length = true then (if putOk l at_ size n = true then putL l at_.toNat (leB n size.toNat) else l) else []
def putB (l : List UInt8) (at_ size n : Int) : Bool := wordsB l.length && putOk l at_ size n
theorem ba_eta (s : ByteArray) : (⟨s.data.toList.toArray⟩ : ByteArray) = s := by cases s; simp
theorem implPut_any (s : ByteArray) (at_ size n : Int) (w : World) (hs : s.size ≤ maxLen) (hn : -9223372036854775808 ≤ n ∧ n ≤ 9223372036854775807) :
 Calls Try.prog 78 #[.string s, .int .i64 at_, .int .i64 size, .int .i64 n] w fun e w' =>
  e = .returned (.tuple #[.string ⟨(putT s.data.toList at_ size n).toArray⟩, .bool (putB s.data.toList at_ size n)]) ∧ Below w.heap.size w w' := by
 have hsl : s.data.toList.length = s.size := by simp
 cases hw : wordsB s.size
 · have hT : putT s.data.toList at_ size n = [] := by rw [putT, hsl, hw, if_neg (by simp)]
   have hB : putB s.data.toList at_ size n = false := by rw [putB, hsl, hw, Bool.false_and]
   rw [hT, hB]
   clear hT hB hsl
   go_enter Try.func78, Try.ntmps78
   go_wp2_with (first | (go_at_call 85; refine (isWords_any _ _ hs).mono ?_; rintro e w' ⟨rfl, rfl⟩))
   go_ret2
   exact ⟨rfl, Below.refl _ _⟩
 have hno : putOk s.data.toList at_ size n = false → putT s.data.toList at_ size n = s.data.toList ∧ putB s.data.toList at_ size n = false := fun h => by
  rw [putT, putB, hsl, hw, h, if_pos rfl, if_neg (by simp)]; exact ⟨rfl, rfl⟩
 cases hp : placeB at_ size
 · obtain ⟨hT, hB⟩ := hno (by rw [putOk, hp, Bool.false_and])
   rw [hT, hB, ba_eta]
   clear hT hB hno hsl
   go_enter Try.func78, Try.ntmps78
   go_wp2_with (first | (go_at_call 85; refine (isWords_any _ _ hs).mono ?_; rintro e w' ⟨rfl, rfl⟩) | (go_at_call 91; refine (isPlace_any _ _ _).mono ?_; rintro e w' ⟨rfl, rfl⟩))
   go_ret2
   exact ⟨rfl, Below.refl _ _⟩
 have hp' : 0 ≤ at_ ∧ at_ ≤ 1600 ∧ ((size = 1 ∨ size = 2 ∨ size = 4 ∨ size = 8) ∧ at_ % size = 0) := by simpa [placeB] using hp
 obtain ⟨ha0, ha1, hz, hm⟩ := hp'
 have hw8 : s.size % 8 = 0 ∧ s.size ≤ 1600 := by simpa [wordsB] using hw
 obtain ⟨hw1, hw2⟩ := hw8
 obtain ⟨a, rfl⟩ := Int.eq_ofNat_of_zero_le ha0
 by_cases hin : a < s.size
 · cases hf : fitsB n size
   · obtain ⟨hT, hB⟩ := hno (by rw [putOk, hf, Bool.and_false, Bool.and_false])
     rw [hT, hB, ba_eta]
     clear hT hB hno hsl hm
     go_enter Try.func78, Try.ntmps78
     go_wp2_with (first | (go_at_call 85; refine (isWords_any _ _ hs).mono ?_; rintro e w' ⟨rfl, rfl⟩) | (go_at_call 91; refine (isPlace_any _ _ _).mono ?_; rintro e w' ⟨rfl, rfl⟩) | (go_at_call 64; refine (fitsBytes_any _ _ _ hz hn).mono ?_; rintro e w' ⟨rfl, rfl⟩))
     go_ret2
     exact ⟨rfl, Below.refl _ _⟩
   · have hok : putOk s.data.toList a size n = true := by rw [putOk, hp, hf, hsl]; simpa using hin
     have hT : putT s.data.toList a size n = putL s.data.toList a (leB n size.toNat) := by rw [putT, hsl, hw, hok, if_pos rfl, if_pos rfl]; rfl
     have hB : putB s.data.toList a size n = true := by rw [putB, hsl, hw, hok]; rfl
     have hlen : ((s.data.toList.drop (8 * (a / 8))).take 8).length = 8 := by simp; omega
     have hsum : (a % 8 : Nat) + size ≤ 8 := by rcases hz with rfl | rfl | rfl | rfl <;> omega
     have hz0 : 0 ≤ size := by omega
     have hN := putL_word s.data.toList (a / 8) (a % 8) (leB n size.toNat) (by rw [leB_length]; omega) (by rw [hsl]; omega)
     rw [show 8 * (a / 8) + a % 8 = a by omega, ← leB_u64 n size.toNat (by omega)] at hN
     rw [hT, hB, ← leB_u64 n size.toNat (by omega), ← hN]
     have hpl : (putL ((s.data.toList.drop (8 * (a / 8))).take 8) (a % 8) (leB (IntKind.u64.wrap n) size.toNat)).length = 8 := by rw [putL_length _ _ _ (by rw [leB_length]; omega), hlen]
     have HL := Lib.hid hlen
     have HP := Lib.hid hpl
     have HM := Lib.hid hm
     have hm0 : 0 ≤ IntKind.u64.wrap n := wrap_u64_nonneg n
     have hm1 : IntKind.u64.wrap n < 18446744073709551616 := by rw [IntKind.wrap_u64]; omega
     clear hN hT hB hlen hsl hm hok hno hpl
     go_enter Try.func78, Try.ntmps78
     go_wp2_with (first | (go_at_call 85; refine (isWords_any _ _ hs).mono ?_; rintro e w' ⟨rfl, rfl⟩) | (go_at_call 91; refine (isPlace_any _ _ _).mono ?_; rintro e w' ⟨rfl, rfl⟩) | (go_at_call 64; refine (fitsBytes_any _ _ _ hz hn).mono ?_; rintro e w' ⟨rfl, rfl⟩) | (go_at_call 87; go_must (refine (wordAt_any s _ _ hs (by omega) (by omega)).mono ?_); rintro e w1 ⟨rfl, hb1⟩) | (go_at_call 93; go_must (refine (put_any _ _ _ _ _ (by exact HL.out) (by omega) (by omega) (by omega) (by omega) (by omega)).mono ?_); rintro e w2 ⟨rfl, hb2⟩) | (refine wpList_store_wd rfl 89 (.tmp 10) (.tmp 40) rfl w2.heap.size (putL ((s.data.toList.drop (8 * (a / 8))).take 8) (a % 8) (leB (IntKind.u64.wrap n) size.toNat)) rfl rfl 89 _ (heap_alloc_new w2 _) (by rw [HP.out]; exact size46) (by rw [HP.out]; rfl) ?_; intro w3 hg3 hb3) | (refine wpList_load_wd rfl 89 (.tmp 10) rfl w2.heap.size rfl 89 _ _ hg3.out Try.underlying89 rfl (by rw [HP.out]; exact size46) ?_) | (go_at_call 90; go_must (refine (withWord_any s _ _ _ hs (by omega) (by omega) HP.out).mono ?_); rintro e w4 ⟨rfl, hb4⟩))
     go_ret2
     refine ⟨rfl, ?_⟩
     have hB2 : Below w.heap.size w w2 := hb1.trans (hb2.mono hb1.size)
     exact ((hB2.alloc hB2.size _).grown hb3.out (by have := hB2.size; simp; omega) (fun k e => by cases e; exact hB2.size)).trans (hb4.mono (by have := hB2.size; have := hb3.out.size; simp at this; omega))
 · obtain ⟨hT, hB⟩ := hno (by rw [putOk, hsl]; simp; intros; omega)
   rw [hT, hB, ba_eta]
   clear hT hB hno hsl hm
   go_enter Try.func78, Try.ntmps78
   go_wp2_with (first | (go_at_call 85; refine (isWords_any _ _ hs).mono ?_; rintro e w' ⟨rfl, rfl⟩) | (go_at_call 91; refine (isPlace_any _ _ _).mono ?_; rintro e w' ⟨rfl, rfl⟩))
   go_ret2
   exact ⟨rfl, Below.refl _ _⟩
theorem inB_01 (n : Int) : inB n 0 1 = decide (n = 0 ∨ n = 1) := by rw [Bool.eq_iff_iff]; simp [inB]; omega
theorem putL_in (l : List UInt8) (a : Nat) (xs : List UInt8) (h : a + xs.length ≤ l.length) (i : Nat) (hi : i < xs.length) : (putL l a xs)[a + i]? = xs[i]? := by
 have e1 : (l.take a).length = a := by simp; omega
 rw [putL, List.getElem?_append_right (by omega), e1, Nat.add_sub_cancel_left, List.getElem?_append_left hi]
theorem putL_out (l : List UInt8) (a : Nat) (xs : List UInt8) (h : a + xs.length ≤ l.length) (j : Nat) (hj : j < a ∨ a + xs.length ≤ j) : (putL l a xs)[j]? = l[j]? := by
 have e1 : (l.take a).length = a := by simp; omega
 rcases hj with hj | hj
 · rw [putL, List.getElem?_append_left (by omega), List.getElem?_take_of_lt hj]
 · rw [putL, List.getElem?_append_right (by omega), e1, List.getElem?_append_right (by omega), List.getElem?_drop]
   congr 1; omega
theorem putB_parts {l : List UInt8} {a z n : Int} (h : putB l a z n = true) :
 (l.length % 8 = 0 ∧ l.length ≤ 1600) ∧ placeB a z = true ∧ fitsB n z = true ∧ 0 ≤ a ∧ a.toNat + z.toNat ≤ l.length ∧ (z = 1 ∨ z = 2 ∨ z = 4 ∨ z = 8) := by
 simp only [putB, putOk, Bool.and_eq_true, decide_eq_true_eq] at h
 obtain ⟨hw, hp, hin, hf⟩ := h
 have hw8 : l.length % 8 = 0 ∧ l.length ≤ 1600 := by simpa [wordsB] using hw
 have hp' : 0 ≤ a ∧ a ≤ 1600 ∧ ((z = 1 ∨ z = 2 ∨ z = 4 ∨ z = 8) ∧ a % z = 0) := by simpa [placeB] using hp
 obtain ⟨ha0, ha1, hz, hm⟩ := hp'
 refine ⟨hw8, hp, hf, ha0, ?_, hz⟩
 rcases hz with rfl | rfl | rfl | rfl <;> omega
theorem putT_eq {l : List UInt8} {a z n : Int} (h : putB l a z n = true) : putT l a z n = putL l a.toNat (leB n z.toNat) := by
 simp only [putB, Bool.and_eq_true] at h
 rw [putT, if_pos h.1, if_pos h.2]
theorem putT_length {l : List UInt8} {a z n : Int} (h : putB l a z n = true) : (putT l a z n).length = l.length := by
 obtain ⟨_, _, _, _, hin, _⟩ := putB_parts h
 rw [putT_eq h, putL_length _ _ _ (by rw [leB_length]; exact hin)]
theorem putT_bd (l : List UInt8) (a z n : Int) (b : Nat) (h : l.length ≤ b) : (putT l a z n).length ≤ b := by
 cases hB : putB l a z n
 · rw [putT]
   split
   · rename_i h1
     rw [putB, h1, Bool.true_and] at hB
     rw [if_neg (by rw [hB]; simp)]
     exact h
   · simp
 · rw [putT_length hB]; exact h
theorem putL_comm (l : List UInt8) (a : Nat) (xs : List UInt8) (k : Nat) (ys : List UInt8) (h1 : a + xs.length ≤ l.length) (h2 : k + ys.length ≤ l.length) (hd : k + ys.length ≤ a ∨ a + xs.length ≤ k) :
 putL (putL l a xs) k ys = putL (putL l k ys) a xs := by
 have l1 := putL_length l a xs h1
 have l2 := putL_length l k ys h2
 apply List.ext_getElem?
 intro j
 by_cases ha : a ≤ j ∧ j < a + xs.length
 · obtain ⟨i, rfl⟩ : ∃ i, j = a + i := ⟨j - a, by omega⟩
   rw [putL_out _ k ys (by omega) (a + i) (by omega), putL_in l a xs h1 i (by omega), putL_in _ a xs (by omega) i (by omega)]
 · by_cases hk : k ≤ j ∧ j < k + ys.length
   · obtain ⟨i, rfl⟩ : ∃ i, j = k + i := ⟨j - k, by omega⟩
     rw [putL_in _ k ys (by omega) i (by omega), putL_out _ a xs (by omega) (k + i) (by omega), putL_in l k ys h2 i (by omega)]
   · rw [putL_out _ k ys (by omega) j (by omega), putL_out l a xs h1 j (by omega), putL_out _ a xs (by omega) j (by omega), putL_out l k ys h2 j (by omega)]
end Go.Proofs.Ytfnecflkahmjoaa
