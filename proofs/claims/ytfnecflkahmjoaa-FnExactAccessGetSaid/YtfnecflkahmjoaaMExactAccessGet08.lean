/- Texts of the proof of the law FnExactAccessGet, side by side: part 8. -/
import Derived.Test.YtfnecflkahmjoaaMExactAccessGet07
set_option maxHeartbeats 8000000
set_option maxRecDepth 100000
namespace Go.Proofs.Ytfnecflkahmjoaa
open Go.RowKit Go.Deep
@[local go_sem] theorem st_bit1 (P : Program) (w : World) (a : Addr) (m : Mode) (b : Nat) : (store a (bit1V b) m).run P w = stored P w a (bit1V b) m := run_store P w a _ m rfl
@[local go_sem] theorem st_bit2 (P : Program) (w : World) (a : Addr) (m : Mode) (b : Nat) : (store a (bit2V b) m).run P w = stored P w a (bit2V b) m := run_store P w a _ m rfl
@[local go_sem] theorem st_num1 (P : Program) (w : World) (a : Addr) (m : Mode) (b : Nat) : (store a (num1V b) m).run P w = stored P w a (num1V b) m := run_store P w a _ m rfl
@[local go_sem] theorem st_num2 (P : Program) (w : World) (a : Addr) (m : Mode) (b : Nat) : (store a (num2V b) m).run P w = stored P w a (num2V b) m := run_store P w a _ m rfl
@[local go_sem] theorem st_point1 (P : Program) (w : World) (a : Addr) (m : Mode) (b : Nat) : (store a (point1V b) m).run P w = stored P w a (point1V b) m := run_store P w a _ m rfl
@[local go_sem] theorem st_point2 (P : Program) (w : World) (a : Addr) (m : Mode) (b : Nat) : (store a (point2V b) m).run P w = stored P w a (point2V b) m := run_store P w a _ m rfl
@[local go_sem] theorem st_told1 (P : Program) (w : World) (a : Addr) (m : Mode) (b : Nat) : (store a (told1V b) m).run P w = stored P w a (told1V b) m := run_store P w a _ m rfl
@[local go_sem] theorem st_told2 (P : Program) (w : World) (a : Addr) (m : Mode) (b : Nat) : (store a (told2V b) m).run P w = stored P w a (told2V b) m := run_store P w a _ m rfl
theorem acrOf_1n (nm : ByteArray) (at_ sz tu tg pl : Int) (w : World) (ht : tg < 0) :
 Calls Try.prog 28 #[accV nm 1 at_ sz tu tg pl] w fun e w' => ∃ b, e = .returned (.agg #[bit1V b, bit2V b]) ∧ w'.heap[b]? = some (.cells #[.int .i64 at_] 3 (0, 0)) ∧ w'.heap[b + 1]? = some (.cells #[.int .i64 tu] 3 (0, 0)) ∧ Below w.heap.size w w' := by
 have HT := Lib.hid (fun W : World => isTagged_any nm 1 at_ sz tu tg pl W)
 have htd : decide (0 ≤ tg) = false := by simp; omega
 rw [htd] at HT
 unfold accV at HT ⊢
 have q0 := al_first w (.cells #[.string nm, .int .i64 1, .int .i64 at_, .int .i64 sz, .int .i64 tu, .int .i64 tg, .int .i64 pl] accT)
 have q1 := al_next q0 (.cells #[.nilFunc, .nilFunc] acrT)
 have r0 := heap_alloc_keep (heap_alloc_new w (.cells #[.string nm, .int .i64 1, .int .i64 at_, .int .i64 sz, .int .i64 tu, .int .i64 tg, .int .i64 pl] accT)) (.cells #[.nilFunc, .nilFunc] acrT)
 have r1 := al_row q0 #[.nilFunc, .nilFunc] acrT
 have HB0 := Lib.hid q1.2
 have HR0 := Lib.hid r0
 have HR1 := Lib.hid r1
 obtain ⟨a0, a1, a2, a3, a4, a5, a6⟩ := cellsV r0
 clear q1 q0 r0 r1 htd ht
 go_enter Try.func28, Try.ntmps28
 go_wp2_with fail
 generalize (w.alloc (.cells #[.string nm, .int .i64 1, .int .i64 at_, .int .i64 sz, .int .i64 tu, .int .i64 tg, .int .i64 pl] accT)).alloc (.cells #[.nilFunc, .nilFunc] acrT) = W at *
 refine (pointAcc_any at_ W).mono ?_
 rintro e w1 ⟨rfl, p0, hb1⟩
 obtain ⟨g, hg⟩ : ∃ g, g = W.heap.size := ⟨_, rfl⟩
 rw [← hg] at p0 ⊢
 have hgl : W.heap.size ≤ g := Nat.le_of_eq hg.symm
 clear hg
 have hw1 := row_lt HR1.out
 have hba := hb1.alloc hb1.size (.cells #[point1V g, point2V g] acrT)
 have rx := heap_alloc_new w1 (.cells #[point1V g, point2V g] acrT)
 have p1 := heap_alloc_keep p0 (.cells #[point1V g, point2V g] acrT)
 have x0 := (hba.block _ (row_lt HR0.out)).trans HR0.out
 have x1 := (hba.block _ (row_lt HR1.out)).trans HR1.out
 have HB1 := Lib.hid (HB0.out.trans (hba.mono HB0.out.size))
 have HX0 := Lib.hid x0
 have HX1 := Lib.hid x1
 have HP := Lib.hid p1
 have HRX := Lib.hid rx
 have hlx : w.heap.size + 2 ≤ w1.heap.size := by have := row_lt HR1.out; have := hb1.size; omega
 clear a0 a1 a2 a3 a4 a5 a6
 obtain ⟨a0, a1, a2, a3, a4, a5, a6⟩ := cellsV x0
 obtain ⟨m0, m1⟩ := cellsA rx
 have mf := row_free rx
 clear hb1 hba rx x0 x1 p0 p1
 go_wp2_with fail
 generalize w1.alloc (.cells #[point1V g, point2V g] acrT) = V1 at *
 generalize w1.heap.size = xb at *
 refine (bitAcc_any at_ tu V1).mono ?_
 rintro e w2 ⟨rfl, b0, b1, hb2⟩
 obtain ⟨b, hbb⟩ : ∃ b, b = V1.heap.size := ⟨_, rfl⟩
 rw [← hbb] at b0 b1 ⊢
 have hbl : V1.heap.size ≤ b := Nat.le_of_eq hbb.symm
 clear hbb
 have hxb := row_lt HRX.out
 have hrx := (hb2.block _ hxb).trans HRX.out
 have y1 := row_setN (row_setN hrx 0 (bit1V b)) 1 (bit2V b)
 simp only [List.setIfInBounds_toArray, List.set_cons_zero, List.set_cons_succ] at y1
 have hks : ∀ k, k ≠ xb → ((w2.setCell ⟨xb, 0, none⟩ (bit1V b)).setCell ⟨xb, 1, none⟩ (bit2V b)).heap[k]? = w2.heap[k]? := fun k h => (Below.heap_setCell _ ⟨xb, 1, none⟩ _ k h).trans (Below.heap_setCell _ ⟨xb, 0, none⟩ _ k h)
 have c0 := (hks _ (by omega)).trans b0
 have c1 := (hks _ (by omega)).trans b1
 have x0 := (hks w.heap.size (by omega)).trans ((hb2.block _ (row_lt HX0.out)).trans HX0.out)
 have x1 := (hks (w.heap.size + 1) (by omega)).trans ((hb2.block _ (row_lt HX1.out)).trans HX1.out)
 have HB2 := Lib.hid (((HB1.out.trans (hb2.mono HB1.out.size)).setCell (p := ⟨xb, 0, none⟩) (by show w.heap.size ≤ xb; omega) (bit1V b)).setCell (p := ⟨xb, 1, none⟩) (by show w.heap.size ≤ xb; omega) (bit2V b))
 have HX2 := Lib.hid x0
 have HX3 := Lib.hid x1
 have HY1 := Lib.hid y1
 have HBX := Lib.hid (And.intro c0 c1)
 clear a0 a1 a2 a3 a4 a5 a6 m0 m1 mf
 obtain ⟨n0, n1⟩ := cellsA hrx
 have nf := row_free hrx
 obtain ⟨a0, a1, a2, a3, a4, a5, a6⟩ := cellsV x0
 obtain ⟨m0, m1⟩ := cellsA y1
 clear hb2 hrx y1 hks x0 x1 b0 b1 c0 c1
 go_wp2_with fail
 generalize (w2.setCell ⟨xb, 0, none⟩ (bit1V b)).setCell ⟨xb, 1, none⟩ (bit2V b) = V2 at *
 clear n0 n1 nf
 clear a0 a1 a2 a3 a4 a5 a6 m0 m1
 refine (HT.out V2).mono ?_
 rintro e w3 ⟨rfl, hb3⟩
 have x0 := (hb3.block _ (row_lt HX2.out)).trans HX2.out
 have x1 := (hb3.block _ (row_lt HX3.out)).trans HX3.out
 have y1 := (hb3.block _ (row_lt HY1.out)).trans HY1.out
 have HB3 := Lib.hid (HB2.out.trans (hb3.mono HB2.out.size))
 have HBX3 := Lib.hid (And.intro ((hb3.block _ (row_lt HBX.out.1)).trans HBX.out.1) ((hb3.block _ (row_lt HBX.out.2)).trans HBX.out.2))
 have HX4 := Lib.hid x1
 have HY4 := Lib.hid y1
 obtain ⟨a0, a1, a2, a3, a4, a5, a6⟩ := cellsV x0
 obtain ⟨m0, m1⟩ := cellsA y1
 obtain ⟨z0, z1⟩ := cellsA x1
 have zf := row_free x1
 clear hb3 x0 x1 y1
 go_wp2_with fail
 have z1 := row_setN (row_setN HX4.out 0 (bit1V b)) 1 (bit2V b)
 simp only [List.setIfInBounds_toArray, List.set_cons_zero, List.set_cons_succ] at z1
 have hks : ∀ k, k ≠ w.heap.size + 1 → ((w3.setCell ⟨w.heap.size + 1, 0, none⟩ (bit1V b)).setCell ⟨w.heap.size + 1, 1, none⟩ (bit2V b)).heap[k]? = w3.heap[k]? := fun k h => (Below.heap_setCell _ ⟨w.heap.size + 1, 1, none⟩ _ k h).trans (Below.heap_setCell _ ⟨w.heap.size + 1, 0, none⟩ _ k h)
 have HF4 := Lib.hid ((HB3.out.setCell (p := ⟨w.heap.size + 1, 0, none⟩) (by show w.heap.size ≤ w.heap.size + 1; omega) (bit1V b)).setCell (p := ⟨w.heap.size + 1, 1, none⟩) (by show w.heap.size ≤ w.heap.size + 1; omega) (bit2V b))
 have hbn : w.heap.size + 2 ≤ b := by omega
 have HF := Lib.hid (And.intro ((hks _ (by omega)).trans HBX3.out.1) (And.intro ((hks _ (by omega)).trans HBX3.out.2) (HF4.out)))
 obtain ⟨e0, e1⟩ := cellsA z1
 exact bodyPost_ret (v := .agg #[bit1V b, bit2V b]) (by simp [results, Try.results28, go_sem, e0, e1]) rfl ⟨b, rfl, HF.out⟩
theorem acrOf_1t (nm : ByteArray) (at_ sz tu tg pl : Int) (w : World) (ht : 0 ≤ tg) :
 Calls Try.prog 28 #[accV nm 1 at_ sz tu tg pl] w fun e w' => ∃ c b, e = .returned (.agg #[told1V c, told2V c]) ∧ w'.heap[c]? = some (.cells #[bit1V b, bit2V b] acrT (0, 0)) ∧ w'.heap[c + 1]? = some (.cells #[.int .i64 tg] 3 (0, 0)) ∧ w'.heap[c + 2]? = some (.cells #[.int .i64 pl] 3 (0, 0)) ∧ w'.heap[b]? = some (.cells #[.int .i64 at_] 3 (0, 0)) ∧ w'.heap[b + 1]? = some (.cells #[.int .i64 tu] 3 (0, 0)) ∧ Below w.heap.size w w' := by
 have HT := Lib.hid (fun W : World => isTagged_any nm 1 at_ sz tu tg pl W)
 have htd : decide (0 ≤ tg) = true := by simp; omega
 rw [htd] at HT
 unfold accV at HT ⊢
 have q0 := al_first w (.cells #[.string nm, .int .i64 1, .int .i64 at_, .int .i64 sz, .int .i64 tu, .int .i64 tg, .int .i64 pl] accT)
 have q1 := al_next q0 (.cells #[.nilFunc, .nilFunc] acrT)
 have r0 := heap_alloc_keep (heap_alloc_new w (.cells #[.string nm, .int .i64 1, .int .i64 at_, .int .i64 sz, .int .i64 tu, .int .i64 tg, .int .i64 pl] accT)) (.cells #[.nilFunc, .nilFunc] acrT)
 have r1 := al_row q0 #[.nilFunc, .nilFunc] acrT
 have HB0 := Lib.hid q1.2
 have HR0 := Lib.hid r0
 have HR1 := Lib.hid r1
 obtain ⟨a0, a1, a2, a3, a4, a5, a6⟩ := cellsV r0
 clear q1 q0 r0 r1 htd ht
 go_enter Try.func28, Try.ntmps28
 go_wp2_with fail
 generalize (w.alloc (.cells #[.string nm, .int .i64 1, .int .i64 at_, .int .i64 sz, .int .i64 tu, .int .i64 tg, .int .i64 pl] accT)).alloc (.cells #[.nilFunc, .nilFunc] acrT) = W at *
 refine (pointAcc_any at_ W).mono ?_
 rintro e w1 ⟨rfl, p0, hb1⟩
 obtain ⟨g, hg⟩ : ∃ g, g = W.heap.size := ⟨_, rfl⟩
 rw [← hg] at p0 ⊢
 have hgl : W.heap.size ≤ g := Nat.le_of_eq hg.symm
 clear hg
 have hw1 := row_lt HR1.out
 have hba := hb1.alloc hb1.size (.cells #[point1V g, point2V g] acrT)
 have rx := heap_alloc_new w1 (.cells #[point1V g, point2V g] acrT)
 have p1 := heap_alloc_keep p0 (.cells #[point1V g, point2V g] acrT)
 have x0 := (hba.block _ (row_lt HR0.out)).trans HR0.out
 have x1 := (hba.block _ (row_lt HR1.out)).trans HR1.out
 have HB1 := Lib.hid (HB0.out.trans (hba.mono HB0.out.size))
 have HX0 := Lib.hid x0
 have HX1 := Lib.hid x1
 have HP := Lib.hid p1
 have HRX := Lib.hid rx
 have hlx : w.heap.size + 2 ≤ w1.heap.size := by have := row_lt HR1.out; have := hb1.size; omega
 clear a0 a1 a2 a3 a4 a5 a6
 obtain ⟨a0, a1, a2, a3, a4, a5, a6⟩ := cellsV x0
 obtain ⟨m0, m1⟩ := cellsA rx
 have mf := row_free rx
 clear hb1 hba rx x0 x1 p0 p1
 go_wp2_with fail
 generalize w1.alloc (.cells #[point1V g, point2V g] acrT) = V1 at *
 generalize w1.heap.size = xb at *
 refine (bitAcc_any at_ tu V1).mono ?_
 rintro e w2 ⟨rfl, b0, b1, hb2⟩
 obtain ⟨b, hbb⟩ : ∃ b, b = V1.heap.size := ⟨_, rfl⟩
 rw [← hbb] at b0 b1 ⊢
 have hbl : V1.heap.size ≤ b := Nat.le_of_eq hbb.symm
 clear hbb
 have hxb := row_lt HRX.out
 have hrx := (hb2.block _ hxb).trans HRX.out
 have y1 := row_setN (row_setN hrx 0 (bit1V b)) 1 (bit2V b)
 simp only [List.setIfInBounds_toArray, List.set_cons_zero, List.set_cons_succ] at y1
 have hks : ∀ k, k ≠ xb → ((w2.setCell ⟨xb, 0, none⟩ (bit1V b)).setCell ⟨xb, 1, none⟩ (bit2V b)).heap[k]? = w2.heap[k]? := fun k h => (Below.heap_setCell _ ⟨xb, 1, none⟩ _ k h).trans (Below.heap_setCell _ ⟨xb, 0, none⟩ _ k h)
 have c0 := (hks _ (by omega)).trans b0
 have c1 := (hks _ (by omega)).trans b1
 have x0 := (hks w.heap.size (by omega)).trans ((hb2.block _ (row_lt HX0.out)).trans HX0.out)
 have x1 := (hks (w.heap.size + 1) (by omega)).trans ((hb2.block _ (row_lt HX1.out)).trans HX1.out)
 have HB2 := Lib.hid (((HB1.out.trans (hb2.mono HB1.out.size)).setCell (p := ⟨xb, 0, none⟩) (by show w.heap.size ≤ xb; omega) (bit1V b)).setCell (p := ⟨xb, 1, none⟩) (by show w.heap.size ≤ xb; omega) (bit2V b))
 have HX2 := Lib.hid x0
 have HX3 := Lib.hid x1
 have HY1 := Lib.hid y1
 have HBX := Lib.hid (And.intro c0 c1)
 clear a0 a1 a2 a3 a4 a5 a6 m0 m1 mf
 obtain ⟨n0, n1⟩ := cellsA hrx
 have nf := row_free hrx
 obtain ⟨a0, a1, a2, a3, a4, a5, a6⟩ := cellsV x0
 obtain ⟨m0, m1⟩ := cellsA y1
 clear hb2 hrx y1 hks x0 x1 b0 b1 c0 c1
 go_wp2_with fail
 generalize (w2.setCell ⟨xb, 0, none⟩ (bit1V b)).setCell ⟨xb, 1, none⟩ (bit2V b) = V2 at *
 clear n0 n1 nf
 clear a0 a1 a2 a3 a4 a5 a6 m0 m1
 refine (HT.out V2).mono ?_
 rintro e w3 ⟨rfl, hb3⟩
 have x0 := (hb3.block _ (row_lt HX2.out)).trans HX2.out
 have x1 := (hb3.block _ (row_lt HX3.out)).trans HX3.out
 have y1 := (hb3.block _ (row_lt HY1.out)).trans HY1.out
 have HB3 := Lib.hid (HB2.out.trans (hb3.mono HB2.out.size))
 have HBX3 := Lib.hid (And.intro ((hb3.block _ (row_lt HBX.out.1)).trans HBX.out.1) ((hb3.block _ (row_lt HBX.out.2)).trans HBX.out.2))
 have HX4 := Lib.hid x1
 have HY4 := Lib.hid y1
 obtain ⟨a0, a1, a2, a3, a4, a5, a6⟩ := cellsV x0
 obtain ⟨m0, m1⟩ := cellsA y1
 obtain ⟨z0, z1⟩ := cellsA x1
 have zf := row_free x1
 clear hb3 x0 x1 y1
 go_wp2_with fail
 refine (told_any (bit1V b) (bit2V b) tg pl w3).mono ?_
 rintro e w4 ⟨rfl, t0, t1, t2, hb4⟩
 obtain ⟨c, hcc⟩ : ∃ c, c = w3.heap.size := ⟨_, rfl⟩
 rw [← hcc] at t0 t1 t2 ⊢
 have hcl : w3.heap.size ≤ c := Nat.le_of_eq hcc.symm
 clear hcc
 have h4 := (hb4.block _ (row_lt HX4.out)).trans HX4.out
 have hlt := row_lt HX4.out
 have z1 := row_setN (row_setN h4 0 (told1V c)) 1 (told2V c)
 simp only [List.setIfInBounds_toArray, List.set_cons_zero, List.set_cons_succ] at z1
 have hks : ∀ k, k ≠ w.heap.size + 1 → ((w4.setCell ⟨w.heap.size + 1, 0, none⟩ (told1V c)).setCell ⟨w.heap.size + 1, 1, none⟩ (told2V c)).heap[k]? = w4.heap[k]? := fun k h => (Below.heap_setCell _ ⟨w.heap.size + 1, 1, none⟩ _ k h).trans (Below.heap_setCell _ ⟨w.heap.size + 1, 0, none⟩ _ k h)
 have HF4 := Lib.hid (((HB3.out.trans (hb4.mono HB3.out.size)).setCell (p := ⟨w.heap.size + 1, 0, none⟩) (by show w.heap.size ≤ w.heap.size + 1; omega) (told1V c)).setCell (p := ⟨w.heap.size + 1, 1, none⟩) (by show w.heap.size ≤ w.heap.size + 1; omega) (told2V c))
 have hbn : w.heap.size + 2 ≤ b := by omega
 have HF := Lib.hid (And.intro ((hks _ (by omega)).trans t0) (And.intro ((hks _ (by omega)).trans t1) (And.intro ((hks _ (by omega)).trans t2) (And.intro ((hks _ (by omega)).trans ((hb4.block _ (row_lt HBX3.out.1)).trans HBX3.out.1)) (And.intro ((hks _ (by omega)).trans ((hb4.block _ (row_lt HBX3.out.2)).trans HBX3.out.2)) (HF4.out))))))
 have HZ1 := Lib.hid z1
 obtain ⟨k0, k1⟩ := cellsA h4
 have kf := row_free h4
 clear a0 a1 a2 a3 a4 a5 a6 m0 m1 z0 z1 zf t0 t1 t2 hb4 h4 hks
 go_wp2_with fail
 obtain ⟨e0, e1⟩ := cellsA HZ1.out
 exact bodyPost_ret (v := .agg #[told1V c, told2V c]) (by simp [results, Try.results28, go_sem, e0, e1]) rfl ⟨c, b, rfl, HF.out⟩
theorem acrOf_2n (nm : ByteArray) (at_ sz tu tg pl : Int) (w : World) (ht : tg < 0) :
 Calls Try.prog 28 #[accV nm 2 at_ sz tu tg pl] w fun e w' => ∃ b, e = .returned (.agg #[num1V b, num2V b]) ∧ w'.heap[b]? = some (.cells #[.int .i64 at_] 3 (0, 0)) ∧ w'.heap[b + 1]? = some (.cells #[.int .i64 sz] 3 (0, 0)) ∧ w'.heap[b + 2]? = some (.cells #[.int .i64 tu] 3 (0, 0)) ∧ Below w.heap.size w w' := by
 have HT := Lib.hid (fun W : World => isTagged_any nm 2 at_ sz tu tg pl W)
 have htd : decide (0 ≤ tg) = false := by simp; omega
 rw [htd] at HT
 unfold accV at HT ⊢
 have q0 := al_first w (.cells #[.string nm, .int .i64 2, .int .i64 at_, .int .i64 sz, .int .i64 tu, .int .i64 tg, .int .i64 pl] accT)
 have q1 := al_next q0 (.cells #[.nilFunc, .nilFunc] acrT)
 have r0 := heap_alloc_keep (heap_alloc_new w (.cells #[.string nm, .int .i64 2, .int .i64 at_, .int .i64 sz, .int .i64 tu, .int .i64 tg, .int .i64 pl] accT)) (.cells #[.nilFunc, .nilFunc] acrT)
 have r1 := al_row q0 #[.nilFunc, .nilFunc] acrT
 have HB0 := Lib.hid q1.2
 have HR0 := Lib.hid r0
 have HR1 := Lib.hid r1
 obtain ⟨a0, a1, a2, a3, a4, a5, a6⟩ := cellsV r0
 clear q1 q0 r0 r1 htd ht
 go_enter Try.func28, Try.ntmps28
 go_wp2_with fail
 generalize (w.alloc (.cells #[.string nm, .int .i64 2, .int .i64 at_, .int .i64 sz, .int .i64 tu, .int .i64 tg, .int .i64 pl] accT)).alloc (.cells #[.nilFunc, .nilFunc] acrT) = W at *
 refine (pointAcc_any at_ W).mono ?_
 rintro e w1 ⟨rfl, p0, hb1⟩
 obtain ⟨g, hg⟩ : ∃ g, g = W.heap.size := ⟨_, rfl⟩
 rw [← hg] at p0 ⊢
 have hgl : W.heap.size ≤ g := Nat.le_of_eq hg.symm
 clear hg
 have hw1 := row_lt HR1.out
 have hba := hb1.alloc hb1.size (.cells #[point1V g, point2V g] acrT)
 have rx := heap_alloc_new w1 (.cells #[point1V g, point2V g] acrT)
 have p1 := heap_alloc_keep p0 (.cells #[point1V g, point2V g] acrT)
 have x0 := (hba.block _ (row_lt HR0.out)).trans HR0.out
 have x1 := (hba.block _ (row_lt HR1.out)).trans HR1.out
 have HB1 := Lib.hid (HB0.out.trans (hba.mono HB0.out.size))
 have HX0 := Lib.hid x0
 have HX1 := Lib.hid x1
 have HP := Lib.hid p1
 have HRX := Lib.hid rx
 have hlx : w.heap.size + 2 ≤ w1.heap.size := by have := row_lt HR1.out; have := hb1.size; omega
 clear a0 a1 a2 a3 a4 a5 a6
 obtain ⟨a0, a1, a2, a3, a4, a5, a6⟩ := cellsV x0
 obtain ⟨m0, m1⟩ := cellsA rx
 have mf := row_free rx
 clear hb1 hba rx x0 x1 p0 p1
 go_wp2_with fail
 generalize w1.alloc (.cells #[point1V g, point2V g] acrT) = V1 at *
 generalize w1.heap.size = xb at *
 refine (numAcc_any at_ sz tu V1).mono ?_
 rintro e w2 ⟨rfl, b0, b1, b2, hb2⟩
 obtain ⟨b, hbb⟩ : ∃ b, b = V1.heap.size := ⟨_, rfl⟩
 rw [← hbb] at b0 b1 b2 ⊢
 have hbl : V1.heap.size ≤ b := Nat.le_of_eq hbb.symm
 clear hbb
 have hxb := row_lt HRX.out
 have hrx := (hb2.block _ hxb).trans HRX.out
 have y1 := row_setN (row_setN hrx 0 (num1V b)) 1 (num2V b)
 simp only [List.setIfInBounds_toArray, List.set_cons_zero, List.set_cons_succ] at y1
 have hks : ∀ k, k ≠ xb → ((w2.setCell ⟨xb, 0, none⟩ (num1V b)).setCell ⟨xb, 1, none⟩ (num2V b)).heap[k]? = w2.heap[k]? := fun k h => (Below.heap_setCell _ ⟨xb, 1, none⟩ _ k h).trans (Below.heap_setCell _ ⟨xb, 0, none⟩ _ k h)
 have c0 := (hks _ (by omega)).trans b0
 have c1 := (hks _ (by omega)).trans b1
 have c2 := (hks _ (by omega)).trans b2
 have x0 := (hks w.heap.size (by omega)).trans ((hb2.block _ (row_lt HX0.out)).trans HX0.out)
 have x1 := (hks (w.heap.size + 1) (by omega)).trans ((hb2.block _ (row_lt HX1.out)).trans HX1.out)
 have HB2 := Lib.hid (((HB1.out.trans (hb2.mono HB1.out.size)).setCell (p := ⟨xb, 0, none⟩) (by show w.heap.size ≤ xb; omega) (num1V b)).setCell (p := ⟨xb, 1, none⟩) (by show w.heap.size ≤ xb; omega) (num2V b))
 have HX2 := Lib.hid x0
 have HX3 := Lib.hid x1
 have HY1 := Lib.hid y1
 have HBX := Lib.hid (And.intro c0 (And.intro c1 c2))
 clear a0 a1 a2 a3 a4 a5 a6 m0 m1 mf
 obtain ⟨n0, n1⟩ := cellsA hrx
 have nf := row_free hrx
 obtain ⟨a0, a1, a2, a3, a4, a5, a6⟩ := cellsV x0
 obtain ⟨m0, m1⟩ := cellsA y1
 clear hb2 hrx y1 hks x0 x1 b0 b1 b2 c0 c1 c2
 go_wp2_with fail
 generalize (w2.setCell ⟨xb, 0, none⟩ (num1V b)).setCell ⟨xb, 1, none⟩ (num2V b) = V2 at *
 clear n0 n1 nf
 clear a0 a1 a2 a3 a4 a5 a6 m0 m1
 refine (HT.out V2).mono ?_
 rintro e w3 ⟨rfl, hb3⟩
 have x0 := (hb3.block _ (row_lt HX2.out)).trans HX2.out
 have x1 := (hb3.block _ (row_lt HX3.out)).trans HX3.out
 have y1 := (hb3.block _ (row_lt HY1.out)).trans HY1.out
 have HB3 := Lib.hid (HB2.out.trans (hb3.mono HB2.out.size))
 have HBX3 := Lib.hid (And.intro ((hb3.block _ (row_lt HBX.out.1)).trans HBX.out.1) (And.intro ((hb3.block _ (row_lt HBX.out.2.1)).trans HBX.out.2.1) ((hb3.block _ (row_lt HBX.out.2.2)).trans HBX.out.2.2)))
 have HX4 := Lib.hid x1
 have HY4 := Lib.hid y1
 obtain ⟨a0, a1, a2, a3, a4, a5, a6⟩ := cellsV x0
 obtain ⟨m0, m1⟩ := cellsA y1
 obtain ⟨z0, z1⟩ := cellsA x1
 have zf := row_free x1
 clear hb3 x0 x1 y1
 go_wp2_with fail
 have z1 := row_setN (row_setN HX4.out 0 (num1V b)) 1 (num2V b)
 simp only [List.setIfInBounds_toArray, List.set_cons_zero, List.set_cons_succ] at z1
 have hks : ∀ k, k ≠ w.heap.size + 1 → ((w3.setCell ⟨w.heap.size + 1, 0, none⟩ (num1V b)).setCell ⟨w.heap.size + 1, 1, none⟩ (num2V b)).heap[k]? = w3.heap[k]? := fun k h => (Below.heap_setCell _ ⟨w.heap.size + 1, 1, none⟩ _ k h).trans (Below.heap_setCell _ ⟨w.heap.size + 1, 0, none⟩ _ k h)
 have HF4 := Lib.hid ((HB3.out.setCell (p := ⟨w.heap.size + 1, 0, none⟩) (by show w.heap.size ≤ w.heap.size + 1; omega) (num1V b)).setCell (p := ⟨w.heap.size + 1, 1, none⟩) (by show w.heap.size ≤ w.heap.size + 1; omega) (num2V b))
 have hbn : w.heap.size + 2 ≤ b := by omega
 have HF := Lib.hid (And.intro ((hks _ (by omega)).trans HBX3.out.1) (And.intro ((hks _ (by omega)).trans HBX3.out.2.1) (And.intro ((hks _ (by omega)).trans HBX3.out.2.2) (HF4.out))))
 obtain ⟨e0, e1⟩ := cellsA z1
 exact bodyPost_ret (v := .agg #[num1V b, num2V b]) (by simp [results, Try.results28, go_sem, e0, e1]) rfl ⟨b, rfl, HF.out⟩
theorem acrOf_2t (nm : ByteArray) (at_ sz tu tg pl : Int) (w : World) (ht : 0 ≤ tg) :
 Calls Try.prog 28 #[accV nm 2 at_ sz tu tg pl] w fun e w' => ∃ c b, e = .returned (.agg #[told1V c, told2V c]) ∧ w'.heap[c]? = some (.cells #[num1V b, num2V b] acrT (0, 0)) ∧ w'.heap[c + 1]? = some (.cells #[.int .i64 tg] 3 (0, 0)) ∧ w'.heap[c + 2]? = some (.cells #[.int .i64 pl] 3 (0, 0)) ∧ w'.heap[b]? = some (.cells #[.int .i64 at_] 3 (0, 0)) ∧ w'.heap[b + 1]? = some (.cells #[.int .i64 sz] 3 (0, 0)) ∧ w'.heap[b + 2]? = some (.cells #[.int .i64 tu] 3 (0, 0)) ∧ Below w.heap.size w w' := by
 have HT := Lib.hid (fun W : World => isTagged_any nm 2 at_ sz tu tg pl W)
 have htd : decide (0 ≤ tg) = true := by simp; omega
 rw [htd] at HT
 unfold accV at HT ⊢
 have q0 := al_first w (.cells #[.string nm, .int .i64 2, .int .i64 at_, .int .i64 sz, .int .i64 tu, .int .i64 tg, .int .i64 pl] accT)
 have q1 := al_next q0 (.cells #[.nilFunc, .nilFunc] acrT)
 have r0 := heap_alloc_keep (heap_alloc_new w (.cells #[.string nm, .int .i64 2, .int .i64 at_, .int .i64 sz, .int .i64 tu, .int .i64 tg, .int .i64 pl] accT)) (.cells #[.nilFunc, .nilFunc] acrT)
 have r1 := al_row q0 #[.nilFunc, .nilFunc] acrT
 have HB0 := Lib.hid q1.2
 have HR0 := Lib.hid r0
 have HR1 := Lib.hid r1
 obtain ⟨a0, a1, a2, a3, a4, a5, a6⟩ := cellsV r0
 clear q1 q0 r0 r1 htd ht
 go_enter Try.func28, Try.ntmps28
 go_wp2_with fail
 generalize (w.alloc (.cells #[.string nm, .int .i64 2, .int .i64 at_, .int .i64 sz, .int .i64 tu, .int .i64 tg, .int .i64 pl] accT)).alloc (.cells #[.nilFunc, .nilFunc] acrT) = W at *
 refine (pointAcc_any at_ W).mono ?_
 rintro e w1 ⟨rfl, p0, hb1⟩
 obtain ⟨g, hg⟩ : ∃ g, g = W.heap.size := ⟨_, rfl⟩
 rw [← hg] at p0 ⊢
 have hgl : W.heap.size ≤ g := Nat.le_of_eq hg.symm
 clear hg
 have hw1 := row_lt HR1.out
 have hba := hb1.alloc hb1.size (.cells #[point1V g, point2V g] acrT)
 have rx := heap_alloc_new w1 (.cells #[point1V g, point2V g] acrT)
 have p1 := heap_alloc_keep p0 (.cells #[point1V g, point2V g] acrT)
 have x0 := (hba.block _ (row_lt HR0.out)).trans HR0.out
 have x1 := (hba.block _ (row_lt HR1.out)).trans HR1.out
 have HB1 := Lib.hid (HB0.out.trans (hba.mono HB0.out.size))
 have HX0 := Lib.hid x0
 have HX1 := Lib.hid x1
 have HP := Lib.hid p1
 have HRX := Lib.hid rx
 have hlx : w.heap.size + 2 ≤ w1.heap.size := by have := row_lt HR1.out; have := hb1.size; omega
 clear a0 a1 a2 a3 a4 a5 a6
 obtain ⟨a0, a1, a2, a3, a4, a5, a6⟩ := cellsV x0
 obtain ⟨m0, m1⟩ := cellsA rx
 have mf := row_free rx
 clear hb1 hba rx x0 x1 p0 p1
 go_wp2_with fail
 generalize w1.alloc (.cells #[point1V g, point2V g] acrT) = V1 at *
 generalize w1.heap.size = xb at *
 refine (numAcc_any at_ sz tu V1).mono ?_
 rintro e w2 ⟨rfl, b0, b1, b2, hb2⟩
 obtain ⟨b, hbb⟩ : ∃ b, b = V1.heap.size := ⟨_, rfl⟩
 rw [← hbb] at b0 b1 b2 ⊢
 have hbl : V1.heap.size ≤ b := Nat.le_of_eq hbb.symm
 clear hbb
 have hxb := row_lt HRX.out
 have hrx := (hb2.block _ hxb).trans HRX.out
 have y1 := row_setN (row_setN hrx 0 (num1V b)) 1 (num2V b)
 simp only [List.setIfInBounds_toArray, List.set_cons_zero, List.set_cons_succ] at y1
 have hks : ∀ k, k ≠ xb → ((w2.setCell ⟨xb, 0, none⟩ (num1V b)).setCell ⟨xb, 1, none⟩ (num2V b)).heap[k]? = w2.heap[k]? := fun k h => (Below.heap_setCell _ ⟨xb, 1, none⟩ _ k h).trans (Below.heap_setCell _ ⟨xb, 0, none⟩ _ k h)
 have c0 := (hks _ (by omega)).trans b0
 have c1 := (hks _ (by omega)).trans b1
 have c2 := (hks _ (by omega)).trans b2
 have x0 := (hks w.heap.size (by omega)).trans ((hb2.block _ (row_lt HX0.out)).trans HX0.out)
 have x1 := (hks (w.heap.size + 1) (by omega)).trans ((hb2.block _ (row_lt HX1.out)).trans HX1.out)
 have HB2 := Lib.hid (((HB1.out.trans (hb2.mono HB1.out.size)).setCell (p := ⟨xb, 0, none⟩) (by show w.heap.size ≤ xb; omega) (num1V b)).setCell (p := ⟨xb, 1, none⟩) (by show w.heap.size ≤ xb; omega) (num2V b))
 have HX2 := Lib.hid x0
 have HX3 := Lib.hid x1
 have HY1 := Lib.hid y1
 have HBX := Lib.hid (And.intro c0 (And.intro c1 c2))
 clear a0 a1 a2 a3 a4 a5 a6 m0 m1 mf
 obtain ⟨n0, n1⟩ := cellsA hrx
 have nf := row_free hrx
 obtain ⟨a0, a1, a2, a3, a4, a5, a6⟩ := cellsV x0
 obtain ⟨m0, m1⟩ := cellsA y1
 clear hb2 hrx y1 hks x0 x1 b0 b1 b2 c0 c1 c2
 go_wp2_with fail
 generalize (w2.setCell ⟨xb, 0, none⟩ (num1V b)).setCell ⟨xb, 1, none⟩ (num2V b) = V2 at *
 clear n0 n1 nf
 clear a0 a1 a2 a3 a4 a5 a6 m0 m1
 refine (HT.out V2).mono ?_
 rintro e w3 ⟨rfl, hb3⟩
 have x0 := (hb3.block _ (row_lt HX2.out)).trans HX2.out
 have x1 := (hb3.block _ (row_lt HX3.out)).trans HX3.out
 have y1 := (hb3.block _ (row_lt HY1.out)).trans HY1.out
 have HB3 := Lib.hid (HB2.out.trans (hb3.mono HB2.out.size))
 have HBX3 := Lib.hid (And.intro ((hb3.block _ (row_lt HBX.out.1)).trans HBX.out.1) (And.intro ((hb3.block _ (row_lt HBX.out.2.1)).trans HBX.out.2.1) ((hb3.block _ (row_lt HBX.out.2.2)).trans HBX.out.2.2)))
 have HX4 := Lib.hid x1
 have HY4 := Lib.hid y1
 obtain ⟨a0, a1, a2, a3, a4, a5, a6⟩ := cellsV x0
 obtain ⟨m0, m1⟩ := cellsA y1
 obtain ⟨z0, z1⟩ := cellsA x1
 have zf := row_free x1
 clear hb3 x0 x1 y1
 go_wp2_with fail
 refine (told_any (num1V b) (num2V b) tg pl w3).mono ?_
 rintro e w4 ⟨rfl, t0, t1, t2, hb4⟩
 obtain ⟨c, hcc⟩ : ∃ c, c = w3.heap.size := ⟨_, rfl⟩
 rw [← hcc] at t0 t1 t2 ⊢
 have hcl : w3.heap.size ≤ c := Nat.le_of_eq hcc.symm
 clear hcc
 have h4 := (hb4.block _ (row_lt HX4.out)).trans HX4.out
 have hlt := row_lt HX4.out
 have z1 := row_setN (row_setN h4 0 (told1V c)) 1 (told2V c)
 simp only [List.setIfInBounds_toArray, List.set_cons_zero, List.set_cons_succ] at z1
 have hks : ∀ k, k ≠ w.heap.size + 1 → ((w4.setCell ⟨w.heap.size + 1, 0, none⟩ (told1V c)).setCell ⟨w.heap.size + 1, 1, none⟩ (told2V c)).heap[k]? = w4.heap[k]? := fun k h => (Below.heap_setCell _ ⟨w.heap.size + 1, 1, none⟩ _ k h).trans (Below.heap_setCell _ ⟨w.heap.size + 1, 0, none⟩ _ k h)
 have HF4 := Lib.hid (((HB3.out.trans (hb4.mono HB3.out.size)).setCell (p := ⟨w.heap.size + 1, 0, none⟩) (by show w.heap.size ≤ w.heap.size + 1; omega) (told1V c)).setCell (p := ⟨w.heap.size + 1, 1, none⟩) (by show w.heap.size ≤ w.heap.size + 1; omega) (told2V c))
 have hbn : w.heap.size + 2 ≤ b := by omega
 have HF := Lib.hid (And.intro ((hks _ (by omega)).trans t0) (And.intro ((hks _ (by omega)).trans t1) (And.intro ((hks _ (by omega)).trans t2) (And.intro ((hks _ (by omega)).trans ((hb4.block _ (row_lt HBX3.out.1)).trans HBX3.out.1)) (And.intro ((hks _ (by omega)).trans ((hb4.block _ (row_lt HBX3.out.2.1)).trans HBX3.out.2.1)) (And.intro ((hks _ (by omega)).trans ((hb4.block _ (row_lt HBX3.out.2.2)).trans HBX3.out.2.2)) (HF4.out)))))))
 have HZ1 := Lib.hid z1
 obtain ⟨k0, k1⟩ := cellsA h4
 have kf := row_free h4
 clear a0 a1 a2 a3 a4 a5 a6 m0 m1 z0 z1 zf t0 t1 t2 hb4 h4 hks
 go_wp2_with fail
 obtain ⟨e0, e1⟩ := cellsA HZ1.out
 exact bodyPost_ret (v := .agg #[told1V c, told2V c]) (by simp [results, Try.results28, go_sem, e0, e1]) rfl ⟨c, b, rfl, HF.out⟩
theorem acrOf_3n (nm : ByteArray) (at_ sz tu tg pl : Int) (w : World) (ht : tg < 0) :
 Calls Try.prog 28 #[accV nm 3 at_ sz tu tg pl] w fun e w' => ∃ b, e = .returned (.agg #[point1V b, point2V b]) ∧ w'.heap[b]? = some (.cells #[.int .i64 at_] 3 (0, 0)) ∧ Below w.heap.size w w' := by
 have HT := Lib.hid (fun W : World => isTagged_any nm 3 at_ sz tu tg pl W)
 have htd : decide (0 ≤ tg) = false := by simp; omega
 rw [htd] at HT
 unfold accV at HT ⊢
 have q0 := al_first w (.cells #[.string nm, .int .i64 3, .int .i64 at_, .int .i64 sz, .int .i64 tu, .int .i64 tg, .int .i64 pl] accT)
 have q1 := al_next q0 (.cells #[.nilFunc, .nilFunc] acrT)
 have r0 := heap_alloc_keep (heap_alloc_new w (.cells #[.string nm, .int .i64 3, .int .i64 at_, .int .i64 sz, .int .i64 tu, .int .i64 tg, .int .i64 pl] accT)) (.cells #[.nilFunc, .nilFunc] acrT)
 have r1 := al_row q0 #[.nilFunc, .nilFunc] acrT
 have HB0 := Lib.hid q1.2
 have HR0 := Lib.hid r0
 have HR1 := Lib.hid r1
 obtain ⟨a0, a1, a2, a3, a4, a5, a6⟩ := cellsV r0
 clear q1 q0 r0 r1 htd ht
 go_enter Try.func28, Try.ntmps28
 go_wp2_with fail
 generalize (w.alloc (.cells #[.string nm, .int .i64 3, .int .i64 at_, .int .i64 sz, .int .i64 tu, .int .i64 tg, .int .i64 pl] accT)).alloc (.cells #[.nilFunc, .nilFunc] acrT) = W at *
 refine (pointAcc_any at_ W).mono ?_
 rintro e w1 ⟨rfl, p0, hb1⟩
 obtain ⟨g, hg⟩ : ∃ g, g = W.heap.size := ⟨_, rfl⟩
 rw [← hg] at p0 ⊢
 have hgl : W.heap.size ≤ g := Nat.le_of_eq hg.symm
 clear hg
 have hw1 := row_lt HR1.out
 have hba := hb1.alloc hb1.size (.cells #[point1V g, point2V g] acrT)
 have rx := heap_alloc_new w1 (.cells #[point1V g, point2V g] acrT)
 have p1 := heap_alloc_keep p0 (.cells #[point1V g, point2V g] acrT)
 have x0 := (hba.block _ (row_lt HR0.out)).trans HR0.out
 have x1 := (hba.block _ (row_lt HR1.out)).trans HR1.out
 have HB1 := Lib.hid (HB0.out.trans (hba.mono HB0.out.size))
 have HX0 := Lib.hid x0
 have HX1 := Lib.hid x1
 have HP := Lib.hid p1
 have HRX := Lib.hid rx
 have hlx : w.heap.size + 2 ≤ w1.heap.size := by have := row_lt HR1.out; have := hb1.size; omega
 clear a0 a1 a2 a3 a4 a5 a6
 obtain ⟨a0, a1, a2, a3, a4, a5, a6⟩ := cellsV x0
 obtain ⟨m0, m1⟩ := cellsA rx
 have mf := row_free rx
 clear hb1 hba rx x0 x1 p0 p1
 go_wp2_with fail
 generalize w1.alloc (.cells #[point1V g, point2V g] acrT) = V1 at *
 generalize w1.heap.size = xb at *
 obtain ⟨b, rfl⟩ : ∃ b, b = g := ⟨_, rfl⟩
 have HB2 := HB1
 have HX2 := HX0
 have HX3 := HX1
 have HY1 := HRX
 have HBX := HP
 clear HB1 HX0 HX1 HRX HP
 obtain ⟨V2, rfl⟩ : ∃ V2, V2 = V1 := ⟨_, rfl⟩
 clear a0 a1 a2 a3 a4 a5 a6 m0 m1
 refine (HT.out V2).mono ?_
 rintro e w3 ⟨rfl, hb3⟩
 have x0 := (hb3.block _ (row_lt HX2.out)).trans HX2.out
 have x1 := (hb3.block _ (row_lt HX3.out)).trans HX3.out
 have y1 := (hb3.block _ (row_lt HY1.out)).trans HY1.out
 have HB3 := Lib.hid (HB2.out.trans (hb3.mono HB2.out.size))
 have HBX3 := Lib.hid ((hb3.block _ (row_lt HBX.out)).trans HBX.out)
 have HX4 := Lib.hid x1
 have HY4 := Lib.hid y1
 obtain ⟨a0, a1, a2, a3, a4, a5, a6⟩ := cellsV x0
 obtain ⟨m0, m1⟩ := cellsA y1
 obtain ⟨z0, z1⟩ := cellsA x1
 have zf := row_free x1
 clear hb3 x0 x1 y1
 go_wp2_with fail
 have z1 := row_setN (row_setN HX4.out 0 (point1V b)) 1 (point2V b)
 simp only [List.setIfInBounds_toArray, List.set_cons_zero, List.set_cons_succ] at z1
 have hks : ∀ k, k ≠ w.heap.size + 1 → ((w3.setCell ⟨w.heap.size + 1, 0, none⟩ (point1V b)).setCell ⟨w.heap.size + 1, 1, none⟩ (point2V b)).heap[k]? = w3.heap[k]? := fun k h => (Below.heap_setCell _ ⟨w.heap.size + 1, 1, none⟩ _ k h).trans (Below.heap_setCell _ ⟨w.heap.size + 1, 0, none⟩ _ k h)
 have HF4 := Lib.hid ((HB3.out.setCell (p := ⟨w.heap.size + 1, 0, none⟩) (by show w.heap.size ≤ w.heap.size + 1; omega) (point1V b)).setCell (p := ⟨w.heap.size + 1, 1, none⟩) (by show w.heap.size ≤ w.heap.size + 1; omega) (point2V b))
 have hbn : w.heap.size + 2 ≤ b := by omega
 have HF := Lib.hid (And.intro ((hks _ (by omega)).trans HBX3.out) (HF4.out))
 obtain ⟨e0, e1⟩ := cellsA z1
 exact bodyPost_ret (v := .agg #[point1V b, point2V b]) (by simp [results, Try.results28, go_sem, e0, e1]) rfl ⟨b, rfl, HF.out⟩
theorem acrOf_3t (nm : ByteArray) (at_ sz tu tg pl : Int) (w : World) (ht : 0 ≤ tg) :
 Calls Try.prog 28 #[accV nm 3 at_ sz tu tg pl] w fun e w' => ∃ c b, e = .returned (.agg #[told1V c, told2V c]) ∧ w'.heap[c]? = some (.cells #[point1V b, point2V b] acrT (0, 0)) ∧ w'.heap[c + 1]? = some (.cells #[.int .i64 tg] 3 (0, 0)) ∧ w'.heap[c + 2]? = some (.cells #[.int .i64 pl] 3 (0, 0)) ∧ w'.heap[b]? = some (.cells #[.int .i64 at_] 3 (0, 0)) ∧ Below w.heap.size w w' := by
 have HT := Lib.hid (fun W : World => isTagged_any nm 3 at_ sz tu tg pl W)
 have htd : decide (0 ≤ tg) = true := by simp; omega
 rw [htd] at HT
 unfold accV at HT ⊢
 have q0 := al_first w (.cells #[.string nm, .int .i64 3, .int .i64 at_, .int .i64 sz, .int .i64 tu, .int .i64 tg, .int .i64 pl] accT)
 have q1 := al_next q0 (.cells #[.nilFunc, .nilFunc] acrT)
 have r0 := heap_alloc_keep (heap_alloc_new w (.cells #[.string nm, .int .i64 3, .int .i64 at_, .int .i64 sz, .int .i64 tu, .int .i64 tg, .int .i64 pl] accT)) (.cells #[.nilFunc, .nilFunc] acrT)
 have r1 := al_row q0 #[.nilFunc, .nilFunc] acrT
 have HB0 := Lib.hid q1.2
 have HR0 := Lib.hid r0
 have HR1 := Lib.hid r1
 obtain ⟨a0, a1, a2, a3, a4, a5, a6⟩ := cellsV r0
 clear q1 q0 r0 r1 htd ht
 go_enter Try.func28, Try.ntmps28
 go_wp2_with fail
 generalize (w.alloc (.cells #[.string nm, .int .i64 3, .int .i64 at_, .int .i64 sz, .int .i64 tu, .int .i64 tg, .int .i64 pl] accT)).alloc (.cells #[.nilFunc, .nilFunc] acrT) = W at *
 refine (pointAcc_any at_ W).mono ?_
 rintro e w1 ⟨rfl, p0, hb1⟩
 obtain ⟨g, hg⟩ : ∃ g, g = W.heap.size := ⟨_, rfl⟩
 rw [← hg] at p0 ⊢
 have hgl : W.heap.size ≤ g := Nat.le_of_eq hg.symm
 clear hg
 have hw1 := row_lt HR1.out
 have hba := hb1.alloc hb1.size (.cells #[point1V g, point2V g] acrT)
 have rx := heap_alloc_new w1 (.cells #[point1V g, point2V g] acrT)
 have p1 := heap_alloc_keep p0 (.cells #[point1V g, point2V g] acrT)
 have x0 := (hba.block _ (row_lt HR0.out)).trans HR0.out
 have x1 := (hba.block _ (row_lt HR1.out)).trans HR1.out
 have HB1 := Lib.hid (HB0.out.trans (hba.mono HB0.out.size))
 have HX0 := Lib.hid x0
 have HX1 := Lib.hid x1
 have HP := Lib.hid p1
 have HRX := Lib.hid rx
 have hlx : w.heap.size + 2 ≤ w1.heap.size := by have := row_lt HR1.out; have := hb1.size; omega
 clear a0 a1 a2 a3 a4 a5 a6
 obtain ⟨a0, a1, a2, a3, a4, a5, a6⟩ := cellsV x0
 obtain ⟨m0, m1⟩ := cellsA rx
 have mf := row_free rx
 clear hb1 hba rx x0 x1 p0 p1
 go_wp2_with fail
 generalize w1.alloc (.cells #[point1V g, point2V g] acrT) = V1 at *
 generalize w1.heap.size = xb at *
 obtain ⟨b, rfl⟩ : ∃ b, b = g := ⟨_, rfl⟩
 have HB2 := HB1
 have HX2 := HX0
 have HX3 := HX1
 have HY1 := HRX
 have HBX := HP
 clear HB1 HX0 HX1 HRX HP
 obtain ⟨V2, rfl⟩ : ∃ V2, V2 = V1 := ⟨_, rfl⟩
 clear a0 a1 a2 a3 a4 a5 a6 m0 m1
 refine (HT.out V2).mono ?_
 rintro e w3 ⟨rfl, hb3⟩
 have x0 := (hb3.block _ (row_lt HX2.out)).trans HX2.out
 have x1 := (hb3.block _ (row_lt HX3.out)).trans HX3.out
 have y1 := (hb3.block _ (row_lt HY1.out)).trans HY1.out
 have HB3 := Lib.hid (HB2.out.trans (hb3.mono HB2.out.size))
 have HBX3 := Lib.hid ((hb3.block _ (row_lt HBX.out)).trans HBX.out)
 have HX4 := Lib.hid x1
 have HY4 := Lib.hid y1
 obtain ⟨a0, a1, a2, a3, a4, a5, a6⟩ := cellsV x0
 obtain ⟨m0, m1⟩ := cellsA y1
 obtain ⟨z0, z1⟩ := cellsA x1
 have zf := row_free x1
 clear hb3 x0 x1 y1
 go_wp2_with fail
 refine (told_any (point1V b) (point2V b) tg pl w3).mono ?_
 rintro e w4 ⟨rfl, t0, t1, t2, hb4⟩
 obtain ⟨c, hcc⟩ : ∃ c, c = w3.heap.size := ⟨_, rfl⟩
 rw [← hcc] at t0 t1 t2 ⊢
 have hcl : w3.heap.size ≤ c := Nat.le_of_eq hcc.symm
 clear hcc
 have h4 := (hb4.block _ (row_lt HX4.out)).trans HX4.out
 have hlt := row_lt HX4.out
 have z1 := row_setN (row_setN h4 0 (told1V c)) 1 (told2V c)
 simp only [List.setIfInBounds_toArray, List.set_cons_zero, List.set_cons_succ] at z1
 have hks : ∀ k, k ≠ w.heap.size + 1 → ((w4.setCell ⟨w.heap.size + 1, 0, none⟩ (told1V c)).setCell ⟨w.heap.size + 1, 1, none⟩ (told2V c)).heap[k]? = w4.heap[k]? := fun k h => (Below.heap_setCell _ ⟨w.heap.size + 1, 1, none⟩ _ k h).trans (Below.heap_setCell _ ⟨w.heap.size + 1, 0, none⟩ _ k h)
 have HF4 := Lib.hid (((HB3.out.trans (hb4.mono HB3.out.size)).setCell (p := ⟨w.heap.size + 1, 0, none⟩) (by show w.heap.size ≤ w.heap.size + 1; omega) (told1V c)).setCell (p := ⟨w.heap.size + 1, 1, none⟩) (by show w.heap.size ≤ w.heap.size + 1; omega) (told2V c))
 have hbn : w.heap.size + 2 ≤ b := by omega
 have HF := Lib.hid (And.intro ((hks _ (by omega)).trans t0) (And.intro ((hks _ (by omega)).trans t1) (And.intro ((hks _ (by omega)).trans t2) (And.intro ((hks _ (by omega)).trans ((hb4.block _ (row_lt HBX3.out)).trans HBX3.out)) (HF4.out)))))
 have HZ1 := Lib.hid z1
 obtain ⟨k0, k1⟩ := cellsA h4
 have kf := row_free h4
 clear a0 a1 a2 a3 a4 a5 a6 m0 m1 z0 z1 zf t0 t1 t2 hb4 h4 hks
 go_wp2_with fail
 obtain ⟨e0, e1⟩ := cellsA HZ1.out
 exact bodyPost_ret (v := .agg #[told1V c, told2V c]) (by simp [results, Try.results28, go_sem, e0, e1]) rfl ⟨c, b, rfl, HF.out⟩
end Go.Proofs.Ytfnecflkahmjoaa
namespace Go.Proofs.Ytfnecflkahmjoaa
open Go.RowKit Go.Deep
def CiN (m : Nat) : Prop := ∀ (n : Nd) (h : Hd) (w : World) (S : Nat → Prop), NdAt w S m n h → sizN n ≤ 2000000 → Calls Try.prog 29 #[.agg #[.int .i64 n.kind, .string n.data, .slice h.A n.ptrs.length h.a, .int .i64 n.size, .int .i64 n.count, .slice h.B n.items.length h.b]] w (NewO (m + 1) n w)
def CiS (m : Nat) : Prop := ∀ (A : Option Addr) (c : Nat) (l : List Nd) (w : World) (S : Nat → Prop), NdsAt w S m A l → sizL l ≤ 2000000 → Calls Try.prog 54 #[.slice A l.length c] w (NewOS (m + 1) l w)
theorem ciS_of (m : Nat) (IH : ∀ j, m = j + 1 → CiN j) : CiS m := by
 intro A c l w S hl hsz
 have hlm : l.length ≤ 2000000 := Nat.le_trans (sizL_len l) hsz
 have HF := Lib.hid hl
 have HSZ := Lib.hid hsz
 have HIH := Lib.hid IH
 clear hl hsz IH
 go_enter Try.func54, Try.ntmps54
 go_wp2
 go_loopw [3, 8] (fun v i wr => ∃ (u : Value) (k : Nat) (q : List NB), u = v ∧ i = .int .i64 k ∧ k ≤ l.length ∧ q.length = k ∧ Hid (RowO wr w.heap.size u q m ∧ q.map (·.1) = l.take k) ∧ Hid (Below w.heap.size w wr)) (fun _ i _ => l.length - (intOf i).toNat)
 case atStart => exact ⟨_, 0, [], rfl, rfl, by omega, rfl, Lib.hid ⟨RowO.nil _ _ _, rfl⟩, Lib.hid (Below.refl _ _)⟩
 case round =>
  obtain ⟨v, k, q, hv0, rfl, hk, hql, HR, HB⟩ := hrel
  subst hv0
  by_cases hlt : k < l.length
  · obtain ⟨j, rfl⟩ := HF.out.pred hlt
    obtain ⟨x, hd, rfl, hc, hn⟩ := (HF.out.below HB.out).at_ hlt
    have htn : l.take k ++ [l[k]] = l.take (k + 1) := (List.take_succ_eq_append_getElem hlt).symm
    have hzy : sizN l[k] ≤ 2000000 := Nat.le_trans (sizL_at hlt) HSZ.out
    have HM : Hid (q.map (·.1) ++ [l[k]] = l.take (k + 1)) := Lib.hid (by rw [HR.out.2, htn])
    generalize l[k] = y at *
    obtain ⟨d0, d1, d2, d3, d4, d5⟩ := hc
    have hba := (Below.refl wr.heap.size wr).alloc (Nat.le_refl _) (.cells #[.int .i64 y.kind, .string y.data, .slice hd.A y.ptrs.length hd.a, .int .i64 y.size, .int .i64 y.count, .slice hd.B y.items.length hd.b] nodeT)
    have HC := Lib.hid (HIH.out j rfl y hd (wr.alloc (.cells #[.int .i64 y.kind, .string y.data, .slice hd.A y.ptrs.length hd.a, .int .i64 y.size, .int .i64 y.count, .slice hd.B y.items.length hd.b] nodeT)) S (hn.below hba) hzy)
    have HR2 := Lib.hid (HR.out.1.alloc (.cells #[.int .i64 y.kind, .string y.data, .slice hd.A y.ptrs.length hd.a, .int .i64 y.size, .int .i64 y.count, .slice hd.B y.items.length hd.b] nodeT))
    have HB2 := Lib.hid (HB.out.trans (hba.mono HB.out.size))
    have hs1 := HB.out.size
    have hs2 : (wr.alloc (.cells #[.int .i64 y.kind, .string y.data, .slice hd.A y.ptrs.length hd.a, .int .i64 y.size, .int .i64 y.count, .slice hd.B y.items.length hd.b] nodeT)).heap.size = wr.heap.size + 1 := by simp
    unfold NewO at HC
    clear hn hzy htn hba
    go_wp2_with fail
    generalize wr.alloc (.cells #[.int .i64 y.kind, .string y.data, .slice hd.A y.ptrs.length hd.a, .int .i64 y.size, .int .i64 y.count, .slice hd.B y.items.length hd.b] nodeT) = W2 at *
    clear d0 d1 d2 d3 d4 d5
    refine HC.out.mono ?_
    rintro e w3 ⟨hy, bs, rfl, hny, hnd, hge, hb3⟩
    have HO3 := Lib.hid (HR2.out.low hb3)
    have HB3 := Lib.hid (HB2.out.trans (hb3.mono HB2.out.size))
    have hs3 := hb3.size
    have HQH : Hid (∀ b ∈ blkB q, b < W2.heap.size) := Lib.hid HR2.out.lt
    have HVH : Hid (∀ k, v.ownBlock = some k → k < W2.heap.size) := Lib.hid fun k hk => (HR2.out.1.lt k hk).2
    have HNY := Lib.hid hny
    have HND := Lib.hid (And.intro hnd hge)
    have hq3 : q.length ≤ 3000000 := by omega
    clear hny hnd hge hb3
    go_wp2_with (at_builtin; go_must (refine wpList_append_ndB rfl (.tmp 12) (.tmp 15) rfl w.heap.size v q.length (rowB q) rfl (HO3.out.1.alloc _) ⟨w3.heap.size, 0, none⟩ 1 (y, hy) rfl (cells_six_new w3 (y, hy) _) hq3 (by simp; omega) ?_); intro A4 c4 w4 hown4 hgrow4 hat4)
    have hnx := (HO3.out.alloc _).next (HNY.out.below ((Below.refl w3.heap.size w3).alloc (Nat.le_refl _) _)) HND.out.1 HND.out.2 (by omega) HQH.out HVH.out hown4.out hgrow4.out hat4.out
    have HB4 := Lib.hid ((HB3.out.alloc HB3.out.size _).grown hgrow4.out (by simp; omega) (fun k hk => (HO3.out.1.lt k hk).1))
    have HR4 := Lib.hid (And.intro hnx (show (q ++ [(y, hy, bs)]).map (·.1) = l.take (k + 1) by rw [List.map_append]; exact HM.out))
    clear hown4 hgrow4 hat4 hnx
    rw [hql] at HR4
    go_roundw
    case rel => exact ⟨_, k + 1, q ++ [(y, hy, bs)], rfl, by go_num, by omega, by simp; omega, HR4, HB4⟩
    case measure => simp [intOf]; omega
  · obtain rfl : k = l.length := by omega
    obtain ⟨A2, c2, bs, hv, hown, hnd, hge⟩ := HR.out.1.done
    have hm := HR.out.2
    rw [List.take_of_length_le (Nat.le_refl _)] at hm
    subst hv
    have hll : l.length = q.length := by omega
    rw [hm] at hown
    have HRES : Hid (NewOS (m + 1) l w (.returned (.slice A2 q.length c2)) wr) := Lib.hid ⟨A2, c2, bs, by rw [hll], hown, hnd, hge, HB.out⟩
    clear hown hnd hge hm HR hll
    go_wp2
    go_ret
    exact HRES.out
end Go.Proofs.Ytfnecflkahmjoaa
