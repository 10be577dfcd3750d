/- Texts of the proof of the law FnReadTwo, side by side: part 15. -/
import Derived.Test.YtlbfffokkhccaaaGreatDoorMReadTwo14
namespace Go.Proofs.YtlbfffokkhccaaaGreatDoor
open Go.RowKit Go.Deep
theorem pair_set2 {w : World} {b : Nat} {p v : Value} {T : TypeId} (h : w.heap[b]? = some (.cells #[p, v] T (0, 0))) (x y : Value) : ((w.setCell ⟨b, 0, none⟩ x).setCell ⟨b, 1, none⟩ y).heap[b]? = some (.cells #[x, y] T (0, 0)) := by
 simp [World.setCell, Array.getElem?_modify, h]
theorem keeps_below2 {B : Nat} {w w' : World} (h : Below B w w') (b : Nat) (hb : B ≤ b + 1) (x y : Value) : Below B w ((w'.setCell ⟨b + 1, 0, none⟩ x).setCell ⟨b + 1, 1, none⟩ y) := (h.setCell hb x).setCell hb y
theorem ta_str_far (x : Value) (w : World) : (Instr.typeAssert (.iface 168 x) 91 172 true).run Tryz.prog w = .ok (.tuple #[.agg #[.int .i64 0, .int .i64 0, .bool false], .bool false]) w := by kernel_rfl
theorem ta_lis_far (x : Value) (w : World) : (Instr.typeAssert (.iface 170 x) 91 172 true).run Tryz.prog w = .ok (.tuple #[.agg #[.int .i64 0, .int .i64 0, .bool false], .bool false]) w := by kernel_rfl
abbrev fiV (o g : Int) : Value := .iface 172 (.agg #[.int .i64 o, .int .i64 g, .bool false])
abbrev siV (o d p : Int) : Value := .iface 168 (.agg #[.int .i64 o, .int .i64 d, .int .i64 p])
abbrev liV (o z c : Int) : Value := .iface 170 (.agg #[.int .i64 o, .int .i64 z, .int .i64 c])
set_option maxHeartbeats 1000000 in
set_option maxRecDepth 10000 in
theorem offOf_s (o d p : Int) (w : World) :
 Calls Tryz.prog 164 #[siV o d p] w fun e w' => e = .returned (.tuple #[.int .i64 o, .bool true]) ∧ Below w.heap.size w w' := by
 have t1 := ta_str_str
 have t2 := ta_lis_str
 have t3 := ta_lis_lis
 go_enter Tryz.func164, Tryz.ntmps164
 go_wp2
 exact bodyPost_ret (v := .tuple #[.int .i64 o, .bool true]) (by simp [results, Tryz.results164, go_sem]) rfl ⟨rfl, by repeat (first | exact Below.refl _ _ | refine Below.alloc ?_ (by simp) _)⟩
set_option maxHeartbeats 1000000 in
theorem near_s (o d p s a : Int) (w : World) (h0 : -100000 ≤ a) (h1 : a ≤ 100000) (k0 : -100000 ≤ o) (k1 : o ≤ 100000) :
 Calls Tryz.prog 129 #[siV o d p, plV s a] w fun e w' => e = .returned (.tuple #[siV o d p, plV s (a + (1 + o)), .nilIface]) ∧ Below w.heap.size w w' := by
 have e1 := (w64_sm (n := 1 + o) (by omega) (by omega)).1
 have e2 := (w64_sm (n := 1 + o) (by omega) (by omega)).2
 have HO := Lib.hid (offOf_s o d p)
 have HH := Lib.hid (fun W : World => behind_a s a (1 + o) W (by omega) (by omega) (by omega) (by omega))
 generalize a + (1 + o) = b at *
 have hb0 := (Below.refl w.heap.size w).alloc (Nat.le_refl _) (.cells #[.int .i64 s, .int .i64 a] 58)
 have hb1 := hb0.alloc (by simp) (.cells #[.int .i64 0, .int .i64 0] 58)
 have hr0 : ((w.alloc (.cells #[.int .i64 s, .int .i64 a] 58)).alloc (.cells #[.int .i64 0, .int .i64 0] 58)).heap[w.heap.size]? = some (.cells #[.int .i64 s, .int .i64 a] 58 (0, 0)) := heap_alloc2_old w _ _
 have hr1 : ((w.alloc (.cells #[.int .i64 s, .int .i64 a] 58)).alloc (.cells #[.int .i64 0, .int .i64 0] 58)).heap[w.heap.size + 1]? = some (.cells #[.int .i64 0, .int .i64 0] 58 (0, 0)) := heap_alloc2_new w _ _
 have HB := Lib.hid hb1
 have R0 := Lib.hid hr0
 have R1 := Lib.hid hr1
 clear hb0 hb1 hr0 hr1
 go_enter Tryz.func129, Tryz.ntmps129
 go_wp2_with fail
 generalize (w.alloc (.cells #[.int .i64 s, .int .i64 a] 58)).alloc (.cells #[.int .i64 0, .int .i64 0] 58) = W at *
 refine (HO.out _).mono ?_
 rintro e w1 ⟨rfl, hb1⟩
 have HB1 := Lib.hid (HB.out.trans (hb1.mono HB.out.size))
 have r0 := (hb1.block _ (row_lt R0.out)).trans R0.out
 have r1 := (hb1.block _ (row_lt R1.out)).trans R1.out
 have R1' := Lib.hid r1
 obtain ⟨c0, c1⟩ := cell_pair r0
 clear hb1 r0 r1 R0
 go_wp2_with fail
 refine (HH.out _).mono ?_
 rintro e w2 ⟨rfl, hb2⟩
 have HB2 := Lib.hid (HB1.out.trans (hb2.mono HB1.out.size))
 have r1 := (hb2.block _ (row_lt R1'.out)).trans R1'.out
 have R2 := Lib.hid r1
 obtain ⟨d0, d1⟩ := cell_pair r1
 have f0 := row_free r1 0
 have f1 := row_free r1 1
 clear hb2 r1 c0 c1
 go_wp2
 have hq := pair_set2 R2.out (.int .i64 s) (.int .i64 b)
 have HBF := Lib.hid (keeps_below2 HB2.out w.heap.size (by omega) (.int .i64 s) (.int .i64 b))
 generalize ((w2.setCell ⟨w.heap.size + 1, 0, none⟩ (.int .i64 s)).setCell ⟨w.heap.size + 1, 1, none⟩ (.int .i64 b)) = wq at *
 obtain ⟨q0, q1⟩ := cell_pair hq
 exact bodyPost_ret (v := .tuple #[siV o d p, plV s b, .nilIface]) (by simp [results, Tryz.results129, go_sem, q0, q1]) rfl ⟨rfl, HBF.out⟩
set_option maxHeartbeats 1000000 in
set_option maxRecDepth 10000 in
theorem offOf_l (o z q : Int) (w : World) :
 Calls Tryz.prog 164 #[liV o z q] w fun e w' => e = .returned (.tuple #[.int .i64 o, .bool true]) ∧ Below w.heap.size w w' := by
 have t1 := ta_str_str
 have t2 := ta_lis_str
 have t3 := ta_lis_lis
 go_enter Tryz.func164, Tryz.ntmps164
 go_wp2
 exact bodyPost_ret (v := .tuple #[.int .i64 o, .bool true]) (by simp [results, Tryz.results164, go_sem]) rfl ⟨rfl, by repeat (first | exact Below.refl _ _ | refine Below.alloc ?_ (by simp) _)⟩
set_option maxHeartbeats 1000000 in
theorem near_l (o z q s a : Int) (w : World) (h0 : -100000 ≤ a) (h1 : a ≤ 100000) (k0 : -100000 ≤ o) (k1 : o ≤ 100000) :
 Calls Tryz.prog 129 #[liV o z q, plV s a] w fun e w' => e = .returned (.tuple #[liV o z q, plV s (a + (1 + o)), .nilIface]) ∧ Below w.heap.size w w' := by
 have e1 := (w64_sm (n := 1 + o) (by omega) (by omega)).1
 have e2 := (w64_sm (n := 1 + o) (by omega) (by omega)).2
 have HO := Lib.hid (offOf_l o z q)
 have HH := Lib.hid (fun W : World => behind_a s a (1 + o) W (by omega) (by omega) (by omega) (by omega))
 generalize a + (1 + o) = b at *
 have hb0 := (Below.refl w.heap.size w).alloc (Nat.le_refl _) (.cells #[.int .i64 s, .int .i64 a] 58)
 have hb1 := hb0.alloc (by simp) (.cells #[.int .i64 0, .int .i64 0] 58)
 have hr0 : ((w.alloc (.cells #[.int .i64 s, .int .i64 a] 58)).alloc (.cells #[.int .i64 0, .int .i64 0] 58)).heap[w.heap.size]? = some (.cells #[.int .i64 s, .int .i64 a] 58 (0, 0)) := heap_alloc2_old w _ _
 have hr1 : ((w.alloc (.cells #[.int .i64 s, .int .i64 a] 58)).alloc (.cells #[.int .i64 0, .int .i64 0] 58)).heap[w.heap.size + 1]? = some (.cells #[.int .i64 0, .int .i64 0] 58 (0, 0)) := heap_alloc2_new w _ _
 have HB := Lib.hid hb1
 have R0 := Lib.hid hr0
 have R1 := Lib.hid hr1
 clear hb0 hb1 hr0 hr1
 go_enter Tryz.func129, Tryz.ntmps129
 go_wp2_with fail
 generalize (w.alloc (.cells #[.int .i64 s, .int .i64 a] 58)).alloc (.cells #[.int .i64 0, .int .i64 0] 58) = W at *
 refine (HO.out _).mono ?_
 rintro e w1 ⟨rfl, hb1⟩
 have HB1 := Lib.hid (HB.out.trans (hb1.mono HB.out.size))
 have r0 := (hb1.block _ (row_lt R0.out)).trans R0.out
 have r1 := (hb1.block _ (row_lt R1.out)).trans R1.out
 have R1' := Lib.hid r1
 obtain ⟨c0, c1⟩ := cell_pair r0
 clear hb1 r0 r1 R0
 go_wp2_with fail
 refine (HH.out _).mono ?_
 rintro e w2 ⟨rfl, hb2⟩
 have HB2 := Lib.hid (HB1.out.trans (hb2.mono HB1.out.size))
 have r1 := (hb2.block _ (row_lt R1'.out)).trans R1'.out
 have R2 := Lib.hid r1
 obtain ⟨d0, d1⟩ := cell_pair r1
 have f0 := row_free r1 0
 have f1 := row_free r1 1
 clear hb2 r1 c0 c1
 go_wp2
 have hq := pair_set2 R2.out (.int .i64 s) (.int .i64 b)
 have HBF := Lib.hid (keeps_below2 HB2.out w.heap.size (by omega) (.int .i64 s) (.int .i64 b))
 generalize ((w2.setCell ⟨w.heap.size + 1, 0, none⟩ (.int .i64 s)).setCell ⟨w.heap.size + 1, 1, none⟩ (.int .i64 b)) = wq at *
 obtain ⟨q0, q1⟩ := cell_pair hq
 exact bodyPost_ret (v := .tuple #[liV o z q, plV s b, .nilIface]) (by simp [results, Tryz.results129, go_sem, q0, q1]) rfl ⟨rfl, HBF.out⟩
set_option maxHeartbeats 1000000 in
set_option maxRecDepth 10000 in
theorem follow_s {w : World} (rb : Nat) (o d p s a : Int) (h0 : -100000 ≤ a) (h1 : a ≤ 100000) (k0 : -100000 ≤ o) (k1 : o ≤ 100000) :
 Calls Tryz.prog 86 #[.pointer (some ⟨rb, 0, none⟩), siV o d p, plV s a] w fun e w' => e = .returned (.tuple #[siV o d p, plV s (a + (1 + o)), .nilIface]) ∧ Below w.heap.size w w' := by
 have HN := Lib.hid (fun W : World => near_s o d p s a W h0 h1 k0 k1)
 generalize a + (1 + o) = b at *
 have hb0 := (Below.refl w.heap.size w).alloc (Nat.le_refl _) (.cells #[.int .i64 s, .int .i64 a] 58)
 have hb1 := hb0.alloc (by simp) (.cells #[.int .i64 0, .int .i64 0] 58)
 have hb2 := hb1.alloc (by simp <;> omega) (.cells #[.int .i64 0, .int .i64 0, .bool false] 172)
 have t1 := ta_str_far
 have t2 := ta_lis_far
 have t3 := ta_far_far
 go_enter Tryz.func86, Tryz.ntmps86
 go_wp2_with fail
 have hr1 : (((w.alloc (.cells #[.int .i64 s, .int .i64 a] 58)).alloc (.cells #[.int .i64 0, .int .i64 0] 58)).alloc (.cells #[.int .i64 0, .int .i64 0, .bool false] 172)).heap[w.heap.size + 1]? = some (.cells #[.int .i64 0, .int .i64 0] 58 (0, 0)) := (Below.heap_alloc _ _ _ (by simp)).trans (heap_alloc2_new w _ _)
 generalize ((w.alloc (.cells #[.int .i64 s, .int .i64 a] 58)).alloc (.cells #[.int .i64 0, .int .i64 0] 58)).alloc (.cells #[.int .i64 0, .int .i64 0, .bool false] 172) = W at *
 refine (HN.out _).mono ?_
 rintro e w2 ⟨rfl, hb3⟩
 have HB2 := Lib.hid (hb2.trans (hb3.mono hb2.size))
 have r1 := (hb3.block _ (row_lt hr1)).trans hr1
 have R2 := Lib.hid r1
 obtain ⟨d0, d1⟩ := cell_pair r1
 have f0 := row_free r1 0
 have f1 := row_free r1 1
 clear hb2 hb3 r1 hr1 hb0 hb1
 go_wp2
 have hq := pair_set2 R2.out (.int .i64 s) (.int .i64 b)
 have HBF := Lib.hid (keeps_below2 HB2.out w.heap.size (by omega) (.int .i64 s) (.int .i64 b))
 generalize ((w2.setCell ⟨w.heap.size + 1, 0, none⟩ (.int .i64 s)).setCell ⟨w.heap.size + 1, 1, none⟩ (.int .i64 b)) = wq at *
 obtain ⟨q0, q1⟩ := cell_pair hq
 exact bodyPost_ret (v := .tuple #[siV o d p, plV s b, .nilIface]) (by simp [results, Tryz.results86, go_sem, q0, q1]) rfl ⟨rfl, HBF.out⟩
set_option maxHeartbeats 1000000 in
set_option maxRecDepth 10000 in
theorem followFar_s {w : World} {rb cap : Nat} {A : Option Addr} {zs : List ByteArray} {L : Int} (h : Rdr w rb A cap zs L) (o d p s a : Int) (j c : Nat) (hj : j < zs.length) (hc : 8 * c + 8 ≤ (zs[j]).size) {x : Int × Int × Int × Int × Int × Int × Int × Bool} (hx : RdW (((zs[j]).data.toList.drop (8 * c)).take 8) x) (hxv : ptI x = siV o d p) (k0 : -10000 ≤ o) (k1 : o ≤ 10000) :
 Calls Tryz.prog 86 #[.pointer (some ⟨rb, 0, none⟩), fiV c j, plV s a] w fun e w' => e = .returned (.tuple #[siV o d p, plV j (c + (1 + o)), .nilIface]) ∧ Below w.heap.size w w' := by
 have hsm := (h.small _ (List.getElem_mem hj)).1
 have HN := Lib.hid (fun W : World => near_s o d p j c W (by omega) (by omega) (by omega) (by omega))
 have HH := Lib.hid (fun (W : World) (hW : Below w.heap.size w W) => has_a (h.below hW) j c 1 hj (by omega))
 have HP := Lib.hid (fun (W : World) (hW : Below w.heap.size w W) => pointerAt_a (h.below hW) j c hj hc hx)
 rw [hxv] at HP
 generalize (c : Int) + (1 + o) = b at *
 have hb3 := (((((Below.refl w.heap.size w).alloc (Nat.le_refl _) (.cells #[.int .i64 s, .int .i64 a] 58)).alloc (by simp) (.cells #[.int .i64 0, .int .i64 0] 58)).alloc (by simp <;> omega) (.cells #[.int .i64 (c : Int), .int .i64 (j : Int), .bool false] 172)).alloc (by simp <;> omega) (.cells #[.int .i64 (j : Int), .int .i64 (c : Int)] 58))
 have t1 := ta_str_far
 have t2 := ta_lis_far
 have t3 := ta_far_far
 clear h hc hx hxv hsm
 go_enter Tryz.func86, Tryz.ntmps86
 go_wp2_with fail
 have hr1 : ((((w.alloc (.cells #[.int .i64 s, .int .i64 a] 58)).alloc (.cells #[.int .i64 0, .int .i64 0] 58)).alloc (.cells #[.int .i64 (c : Int), .int .i64 (j : Int), .bool false] 172)).alloc (.cells #[.int .i64 (j : Int), .int .i64 (c : Int)] 58)).heap[w.heap.size + 1]? = some (.cells #[.int .i64 0, .int .i64 0] 58 (0, 0)) := (Below.heap_alloc _ _ _ (by simp <;> omega)).trans ((Below.heap_alloc _ _ _ (by simp)).trans (heap_alloc2_new w _ _))
 have hr3 : ((((w.alloc (.cells #[.int .i64 s, .int .i64 a] 58)).alloc (.cells #[.int .i64 0, .int .i64 0] 58)).alloc (.cells #[.int .i64 (c : Int), .int .i64 (j : Int), .bool false] 172)).alloc (.cells #[.int .i64 (j : Int), .int .i64 (c : Int)] 58)).heap[w.heap.size + 1 + 1 + 1]? = some (.cells #[.int .i64 (j : Int), .int .i64 (c : Int)] 58 (0, 0)) := by
  have := heap_alloc_new (((w.alloc (.cells #[.int .i64 s, .int .i64 a] 58)).alloc (.cells #[.int .i64 0, .int .i64 0] 58)).alloc (.cells #[.int .i64 (c : Int), .int .i64 (j : Int), .bool false] 172)) (.cells #[.int .i64 (j : Int), .int .i64 (c : Int)] 58)
  rwa [show (((w.alloc (.cells #[.int .i64 s, .int .i64 a] 58)).alloc (.cells #[.int .i64 0, .int .i64 0] 58)).alloc (.cells #[.int .i64 (c : Int), .int .i64 (j : Int), .bool false] 172)).heap.size = w.heap.size + 1 + 1 + 1 by simp] at this
 generalize (((w.alloc (.cells #[.int .i64 s, .int .i64 a] 58)).alloc (.cells #[.int .i64 0, .int .i64 0] 58)).alloc (.cells #[.int .i64 (c : Int), .int .i64 (j : Int), .bool false] 172)).alloc (.cells #[.int .i64 (j : Int), .int .i64 (c : Int)] 58) = W at *
 refine (HH.out _ hb3).mono ?_
 rintro e w5 ⟨rfl, hb5⟩
 have HB5 := Lib.hid (hb3.trans (hb5.mono hb3.size))
 have r1 := (hb5.block _ (row_lt hr1)).trans hr1
 have r3 := (hb5.block _ (row_lt hr3)).trans hr3
 have R1 := Lib.hid r1
 have R3 := Lib.hid r3
 obtain ⟨c0, c1⟩ := cell_pair r3
 clear hb3 hb5 r1 r3 hr1 hr3
 have hsz5 : (w5.drew).heap.size = w5.heap.size := rfl
 go_wp2_with fail
 go_region_with (first | (go_at_call 85; go_must (refine (HP.out _ (by exact HB5.out.drew)).mono ?_); rintro e w6 ⟨rfl, hb6⟩; have r6 := (hb6.block _ (row_lt R3.out)).trans R3.out; obtain ⟨g0, g1⟩ := cell_pair r6; clear r6) | (go_at_call 129; go_must (refine (HN.out _).mono ?_); rintro e w7 ⟨rfl, hb7⟩; have r7 := (hb7.block _ (row_lt ((hb6.block _ (row_lt R1.out)).trans R1.out))).trans ((hb6.block _ (row_lt R1.out)).trans R1.out); obtain ⟨d0, d1⟩ := cell_pair r7; have f0 := row_free r7 0; have f1 := row_free r7 1))
 all_goals
  have HB7 := HB5.out.drew.trans ((hb6.trans (hb7.mono hb6.size)).mono HB5.out.drew.size)
  have hq := pair_set2 r7 (.int .i64 (j : Int)) (.int .i64 b)
  have HBF := Lib.hid (keeps_below2 HB7 w.heap.size (by omega) (.int .i64 (j : Int)) (.int .i64 b))
  generalize ((w7.setCell ⟨w.heap.size + 1, 0, none⟩ (.int .i64 (j : Int))).setCell ⟨w.heap.size + 1, 1, none⟩ (.int .i64 b)) = wq at *
  obtain ⟨q0, q1⟩ := cell_pair hq
  clear g0 g1 d0 d1 f0 f1 c0 c1 HB7 hb6 hb7
  go_wp2
  exact bodyPost_ret (v := .tuple #[siV o d p, plV j b, .nilIface]) (by simp [results, Tryz.results86, go_sem, q0, q1]) rfl ⟨rfl, HBF.out⟩
set_option maxHeartbeats 1000000 in
set_option maxRecDepth 10000 in
theorem follow_l {w : World} (rb : Nat) (o z q s a : Int) (h0 : -100000 ≤ a) (h1 : a ≤ 100000) (k0 : -100000 ≤ o) (k1 : o ≤ 100000) :
 Calls Tryz.prog 86 #[.pointer (some ⟨rb, 0, none⟩), liV o z q, plV s a] w fun e w' => e = .returned (.tuple #[liV o z q, plV s (a + (1 + o)), .nilIface]) ∧ Below w.heap.size w w' := by
 have HN := Lib.hid (fun W : World => near_l o z q s a W h0 h1 k0 k1)
 generalize a + (1 + o) = b at *
 have hb0 := (Below.refl w.heap.size w).alloc (Nat.le_refl _) (.cells #[.int .i64 s, .int .i64 a] 58)
 have hb1 := hb0.alloc (by simp) (.cells #[.int .i64 0, .int .i64 0] 58)
 have hb2 := hb1.alloc (by simp <;> omega) (.cells #[.int .i64 0, .int .i64 0, .bool false] 172)
 have t1 := ta_str_far
 have t2 := ta_lis_far
 have t3 := ta_far_far
 go_enter Tryz.func86, Tryz.ntmps86
 go_wp2_with fail
 have hr1 : (((w.alloc (.cells #[.int .i64 s, .int .i64 a] 58)).alloc (.cells #[.int .i64 0, .int .i64 0] 58)).alloc (.cells #[.int .i64 0, .int .i64 0, .bool false] 172)).heap[w.heap.size + 1]? = some (.cells #[.int .i64 0, .int .i64 0] 58 (0, 0)) := (Below.heap_alloc _ _ _ (by simp)).trans (heap_alloc2_new w _ _)
 generalize ((w.alloc (.cells #[.int .i64 s, .int .i64 a] 58)).alloc (.cells #[.int .i64 0, .int .i64 0] 58)).alloc (.cells #[.int .i64 0, .int .i64 0, .bool false] 172) = W at *
 refine (HN.out _).mono ?_
 rintro e w2 ⟨rfl, hb3⟩
 have HB2 := Lib.hid (hb2.trans (hb3.mono hb2.size))
 have r1 := (hb3.block _ (row_lt hr1)).trans hr1
 have R2 := Lib.hid r1
 obtain ⟨d0, d1⟩ := cell_pair r1
 have f0 := row_free r1 0
 have f1 := row_free r1 1
 clear hb2 hb3 r1 hr1 hb0 hb1
 go_wp2
 have hq := pair_set2 R2.out (.int .i64 s) (.int .i64 b)
 have HBF := Lib.hid (keeps_below2 HB2.out w.heap.size (by omega) (.int .i64 s) (.int .i64 b))
 generalize ((w2.setCell ⟨w.heap.size + 1, 0, none⟩ (.int .i64 s)).setCell ⟨w.heap.size + 1, 1, none⟩ (.int .i64 b)) = wq at *
 obtain ⟨q0, q1⟩ := cell_pair hq
 exact bodyPost_ret (v := .tuple #[liV o z q, plV s b, .nilIface]) (by simp [results, Tryz.results86, go_sem, q0, q1]) rfl ⟨rfl, HBF.out⟩
set_option maxHeartbeats 1000000 in
set_option maxRecDepth 10000 in
theorem followFar_l {w : World} {rb cap : Nat} {A : Option Addr} {zs : List ByteArray} {L : Int} (h : Rdr w rb A cap zs L) (o z q s a : Int) (j c : Nat) (hj : j < zs.length) (hc : 8 * c + 8 ≤ (zs[j]).size) {x : Int × Int × Int × Int × Int × Int × Int × Bool} (hx : RdW (((zs[j]).data.toList.drop (8 * c)).take 8) x) (hxv : ptI x = liV o z q) (k0 : -10000 ≤ o) (k1 : o ≤ 10000) :
 Calls Tryz.prog 86 #[.pointer (some ⟨rb, 0, none⟩), fiV c j, plV s a] w fun e w' => e = .returned (.tuple #[liV o z q, plV j (c + (1 + o)), .nilIface]) ∧ Below w.heap.size w w' := by
 have hsm := (h.small _ (List.getElem_mem hj)).1
 have HN := Lib.hid (fun W : World => near_l o z q j c W (by omega) (by omega) (by omega) (by omega))
 have HH := Lib.hid (fun (W : World) (hW : Below w.heap.size w W) => has_a (h.below hW) j c 1 hj (by omega))
 have HP := Lib.hid (fun (W : World) (hW : Below w.heap.size w W) => pointerAt_a (h.below hW) j c hj hc hx)
 rw [hxv] at HP
 generalize (c : Int) + (1 + o) = b at *
 have hb3 := (((((Below.refl w.heap.size w).alloc (Nat.le_refl _) (.cells #[.int .i64 s, .int .i64 a] 58)).alloc (by simp) (.cells #[.int .i64 0, .int .i64 0] 58)).alloc (by simp <;> omega) (.cells #[.int .i64 (c : Int), .int .i64 (j : Int), .bool false] 172)).alloc (by simp <;> omega) (.cells #[.int .i64 (j : Int), .int .i64 (c : Int)] 58))
 have t1 := ta_str_far
 have t2 := ta_lis_far
 have t3 := ta_far_far
 clear h hc hx hxv hsm
 go_enter Tryz.func86, Tryz.ntmps86
 go_wp2_with fail
 have hr1 : ((((w.alloc (.cells #[.int .i64 s, .int .i64 a] 58)).alloc (.cells #[.int .i64 0, .int .i64 0] 58)).alloc (.cells #[.int .i64 (c : Int), .int .i64 (j : Int), .bool false] 172)).alloc (.cells #[.int .i64 (j : Int), .int .i64 (c : Int)] 58)).heap[w.heap.size + 1]? = some (.cells #[.int .i64 0, .int .i64 0] 58 (0, 0)) := (Below.heap_alloc _ _ _ (by simp <;> omega)).trans ((Below.heap_alloc _ _ _ (by simp)).trans (heap_alloc2_new w _ _))
 have hr3 : ((((w.alloc (.cells #[.int .i64 s, .int .i64 a] 58)).alloc (.cells #[.int .i64 0, .int .i64 0] 58)).alloc (.cells #[.int .i64 (c : Int), .int .i64 (j : Int), .bool false] 172)).alloc (.cells #[.int .i64 (j : Int), .int .i64 (c : Int)] 58)).heap[w.heap.size + 1 + 1 + 1]? = some (.cells #[.int .i64 (j : Int), .int .i64 (c : Int)] 58 (0, 0)) := by
  have := heap_alloc_new (((w.alloc (.cells #[.int .i64 s, .int .i64 a] 58)).alloc (.cells #[.int .i64 0, .int .i64 0] 58)).alloc (.cells #[.int .i64 (c : Int), .int .i64 (j : Int), .bool false] 172)) (.cells #[.int .i64 (j : Int), .int .i64 (c : Int)] 58)
  rwa [show (((w.alloc (.cells #[.int .i64 s, .int .i64 a] 58)).alloc (.cells #[.int .i64 0, .int .i64 0] 58)).alloc (.cells #[.int .i64 (c : Int), .int .i64 (j : Int), .bool false] 172)).heap.size = w.heap.size + 1 + 1 + 1 by simp] at this
 generalize (((w.alloc (.cells #[.int .i64 s, .int .i64 a] 58)).alloc (.cells #[.int .i64 0, .int .i64 0] 58)).alloc (.cells #[.int .i64 (c : Int), .int .i64 (j : Int), .bool false] 172)).alloc (.cells #[.int .i64 (j : Int), .int .i64 (c : Int)] 58) = W at *
 refine (HH.out _ hb3).mono ?_
 rintro e w5 ⟨rfl, hb5⟩
 have HB5 := Lib.hid (hb3.trans (hb5.mono hb3.size))
 have r1 := (hb5.block _ (row_lt hr1)).trans hr1
 have r3 := (hb5.block _ (row_lt hr3)).trans hr3
 have R1 := Lib.hid r1
 have R3 := Lib.hid r3
 obtain ⟨c0, c1⟩ := cell_pair r3
 clear hb3 hb5 r1 r3 hr1 hr3
 have hsz5 : (w5.drew).heap.size = w5.heap.size := rfl
 go_wp2_with fail
 go_region_with (first | (go_at_call 85; go_must (refine (HP.out _ (by exact HB5.out.drew)).mono ?_); rintro e w6 ⟨rfl, hb6⟩; have r6 := (hb6.block _ (row_lt R3.out)).trans R3.out; obtain ⟨g0, g1⟩ := cell_pair r6; clear r6) | (go_at_call 129; go_must (refine (HN.out _).mono ?_); rintro e w7 ⟨rfl, hb7⟩; have r7 := (hb7.block _ (row_lt ((hb6.block _ (row_lt R1.out)).trans R1.out))).trans ((hb6.block _ (row_lt R1.out)).trans R1.out); obtain ⟨d0, d1⟩ := cell_pair r7; have f0 := row_free r7 0; have f1 := row_free r7 1))
 all_goals
  have HB7 := HB5.out.drew.trans ((hb6.trans (hb7.mono hb6.size)).mono HB5.out.drew.size)
  have hq := pair_set2 r7 (.int .i64 (j : Int)) (.int .i64 b)
  have HBF := Lib.hid (keeps_below2 HB7 w.heap.size (by omega) (.int .i64 (j : Int)) (.int .i64 b))
  generalize ((w7.setCell ⟨w.heap.size + 1, 0, none⟩ (.int .i64 (j : Int))).setCell ⟨w.heap.size + 1, 1, none⟩ (.int .i64 b)) = wq at *
  obtain ⟨q0, q1⟩ := cell_pair hq
  clear g0 g1 d0 d1 f0 f1 c0 c1 HB7 hb6 hb7
  go_wp2
  exact bodyPost_ret (v := .tuple #[liV o z q, plV j b, .nilIface]) (by simp [results, Tryz.results86, go_sem, q0, q1]) rfl ⟨rfl, HBF.out⟩
end Go.Proofs.YtlbfffokkhccaaaGreatDoor