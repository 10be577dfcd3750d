/- Texts of the proof of the law FnReadTwo, side by side: part 33. -/
import Derived.OpenShut
import Derived.Test.YtlbfffokkhccaaaGreatDoorMReadTwo32
namespace Go.Proofs.YtlbfffokkhccaaaGreatDoor
open Go.RowKit Go.Deep
set_option maxHeartbeats 2000000 in
set_option maxRecDepth 10000 in
theorem followTwo_s {w : World} {rb cap : Nat} {A : Option Addr} {zs : List ByteArray} {L : Int} (h : Rdr w rb A cap zs L) (p1 p2 fo fg : Int) (j c : Nat) (hj : j < zs.length) (hc : c + 2 ≤ (zs[j]).size / 8) {x y : Int × Int × Int × Int × Int × Int × Int × Bool} (hx : RdW (((zs[j]).data.toList.drop (8 * c)).take 8) x) (hxv : ptI x = fiV fo fg) (hy : RdW (((zs[j]).data.toList.drop (8 * (c + 1))).take 8) y) (hyv : ptI y = siV 0 p1 p2) :
 Calls Tryz.prog 130 #[.pointer (some ⟨rb, 0, none⟩), plV j c] w fun e w' => e = .returned (.tuple #[siV 0 p1 p2, plV fg fo, .nilIface]) ∧ Below w.heap.size w w' := by
 have hsm := (h.small _ (List.getElem_mem hj)).1
 have HH := Lib.hid (fun (W : World) (hW : Below w.heap.size w W) => has_a (h.below hW) j c 2 hj (by omega))
 have HP1 := Lib.hid (fun (W : World) (hW : Below w.heap.size w W) => pointerAt_a (h.below hW) j c hj (by omega) hx)
 have HP2 := Lib.hid (fun (W : World) (hW : Below w.heap.size w W) => pointerAt_a (h.below hW) j (c + 1) hj (by omega) hy)
 rw [hxv] at HP1
 rw [hyv] at HP2
 have HBH := Lib.hid (fun W : World => behind_a j c 1 W (by omega) (by omega) (by omega) (by omega))
 rw [show ((c + 1 : Nat) : Int) = (c : Int) + 1 by omega] at HP2
 generalize (c : Int) + 1 = c1 at *
 have HO := Lib.hid (offOf_s 0 p1 p2)
 have hb0 := (Below.refl w.heap.size w).alloc (Nat.le_refl _) (.cells #[.int .i64 (j : Int), .int .i64 (c : Int)] 58)
 have hb1 := hb0.alloc (by simp) (.cells #[.int .i64 0, .int .i64 0] 58)
 have hr0 : ((w.alloc (.cells #[.int .i64 (j : Int), .int .i64 (c : Int)] 58)).alloc (.cells #[.int .i64 0, .int .i64 0] 58)).heap[w.heap.size]? = some (.cells #[.int .i64 (j : Int), .int .i64 (c : Int)] 58 (0, 0)) := heap_alloc2_old w _ _
 have hr1 : ((w.alloc (.cells #[.int .i64 (j : Int), .int .i64 (c : Int)] 58)).alloc (.cells #[.int .i64 0, .int .i64 0] 58)).heap[w.heap.size + 1]? = some (.cells #[.int .i64 0, .int .i64 0] 58 (0, 0)) := heap_alloc2_new w _ _
 have HB := Lib.hid hb1
 have R0 := Lib.hid hr0
 have R1 := Lib.hid hr1
 have t1 := ta_str_far
 have t2 := ta_lis_far
 have t3 := ta_far_far
 obtain ⟨c0, c1'⟩ := cell_pair hr0
 clear h hc hx hy hxv hyv hsm hb0 hb1 hr0 hr1
 go_enter Tryz.func130, Tryz.ntmps130
 go_wp2_with fail
 generalize (w.alloc (.cells #[.int .i64 (j : Int), .int .i64 (c : Int)] 58)).alloc (.cells #[.int .i64 0, .int .i64 0] 58) = W at *
 refine (HH.out _ HB.out).mono ?_
 rintro e w1 ⟨rfl, hb1⟩
 have HB1 := Lib.hid (HB.out.trans (hb1.mono HB.out.size))
 have S0 := Lib.hid ((hb1.block _ (row_lt R0.out)).trans R0.out)
 have S1 := Lib.hid ((hb1.block _ (row_lt R1.out)).trans R1.out)
 clear c0 c1' hb1
 obtain ⟨c0, c1'⟩ := cell_pair S0.out
 go_wp2_with fail
 refine (HP1.out _ HB1.out).mono ?_
 rintro e w2 ⟨rfl, hb2⟩
 have hba := hb2.alloc hb2.size (.cells #[.int .i64 fo, .int .i64 fg, .bool false] 172)
 have FN := Lib.hid (heap_alloc_new w2 (.cells #[.int .i64 fo, .int .i64 fg, .bool false] 172))
 have HB2 := Lib.hid (HB1.out.trans (hba.mono HB1.out.size))
 have T0 := Lib.hid ((hba.block _ (row_lt S0.out)).trans S0.out)
 have T1 := Lib.hid ((hba.block _ (row_lt S1.out)).trans S1.out)
 clear c0 c1' hb2 hba
 obtain ⟨c0, c1'⟩ := cell_pair T0.out
 go_wp2_with fail
 generalize w2.alloc (.cells #[.int .i64 fo, .int .i64 fg, .bool false] 172) = W3 at *
 generalize w2.heap.size = fb at *
 refine (HBH.out _).mono ?_
 rintro e w4 ⟨rfl, hb4⟩
 have HB4 := Lib.hid (HB2.out.trans (hb4.mono HB2.out.size))
 have U1 := Lib.hid ((hb4.block _ (row_lt T1.out)).trans T1.out)
 have FN4 := Lib.hid ((hb4.block _ (row_lt FN.out)).trans FN.out)
 clear c0 c1' hb4
 go_wp2_with fail
 refine (HP2.out _ HB4.out).mono ?_
 rintro e w5 ⟨rfl, hb5⟩
 have HB5 := Lib.hid (HB4.out.trans (hb5.mono HB4.out.size))
 have V1 := Lib.hid ((hb5.block _ (row_lt U1.out)).trans U1.out)
 have FN5 := Lib.hid ((hb5.block _ (row_lt FN4.out)).trans FN4.out)
 clear hb5
 go_wp2_with fail
 refine (HO.out _).mono ?_
 rintro e w6 ⟨rfl, hb6⟩
 have HB6 := Lib.hid (HB5.out.trans (hb6.mono HB5.out.size))
 have x1 := (hb6.block _ (row_lt V1.out)).trans V1.out
 have xf := (hb6.block _ (row_lt FN5.out)).trans FN5.out
 have X1 := Lib.hid x1
 obtain ⟨d0, d1⟩ := cell_pair x1
 have f0 := row_free x1 0
 have f1 := row_free x1 1
 have g0 : w6.cell? ⟨fb, 0, none⟩ = some (.int .i64 fo) := (by rw [cell_of_row _ _ _ _ _ _ xf]; rfl)
 have g1 : w6.cell? ⟨fb, 1, none⟩ = some (.int .i64 fg) := (by rw [cell_of_row _ _ _ _ _ _ xf]; rfl)
 have g2 : w6.cell? ⟨fb, 2, none⟩ = some (.bool false) := (by rw [cell_of_row _ _ _ _ _ _ xf]; rfl)
 clear hb6 x1 xf t1 t2 t3
 go_wp2_with fail
 go_region
 all_goals
  have hq := pair_set2 X1.out (.int .i64 fg) (.int .i64 fo)
  have HBF := Lib.hid (keeps_below2 HB6.out w.heap.size (by omega) (.int .i64 fg) (.int .i64 fo))
  generalize ((w6.setCell ⟨w.heap.size + 1, 0, none⟩ (.int .i64 fg)).setCell ⟨w.heap.size + 1, 1, none⟩ (.int .i64 fo)) = wq at *
  have hq' : wq.drew.heap[w.heap.size + 1]? = some (.cells #[.int .i64 fg, .int .i64 fo] 58 (0, 0)) := hq
  obtain ⟨q0, q1⟩ := cell_pair hq'
  clear d0 d1 f0 f1 g0 g1 g2
  (try go_wp2)
  exact bodyPost_ret (v := .tuple #[siV 0 p1 p2, plV fg fo, .nilIface]) (by simp [results, Tryz.results130, go_sem, q0, q1]) rfl ⟨rfl, HBF.out.drew⟩
set_option maxHeartbeats 2000000 in
set_option maxRecDepth 10000 in
theorem followTwo_l {w : World} {rb cap : Nat} {A : Option Addr} {zs : List ByteArray} {L : Int} (h : Rdr w rb A cap zs L) (p1 p2 fo fg : Int) (j c : Nat) (hj : j < zs.length) (hc : c + 2 ≤ (zs[j]).size / 8) {x y : Int × Int × Int × Int × Int × Int × Int × Bool} (hx : RdW (((zs[j]).data.toList.drop (8 * c)).take 8) x) (hxv : ptI x = fiV fo fg) (hy : RdW (((zs[j]).data.toList.drop (8 * (c + 1))).take 8) y) (hyv : ptI y = liV 0 p1 p2) :
 Calls Tryz.prog 130 #[.pointer (some ⟨rb, 0, none⟩), plV j c] w fun e w' => e = .returned (.tuple #[liV 0 p1 p2, plV fg fo, .nilIface]) ∧ Below w.heap.size w w' := by
 have hsm := (h.small _ (List.getElem_mem hj)).1
 have HH := Lib.hid (fun (W : World) (hW : Below w.heap.size w W) => has_a (h.below hW) j c 2 hj (by omega))
 have HP1 := Lib.hid (fun (W : World) (hW : Below w.heap.size w W) => pointerAt_a (h.below hW) j c hj (by omega) hx)
 have HP2 := Lib.hid (fun (W : World) (hW : Below w.heap.size w W) => pointerAt_a (h.below hW) j (c + 1) hj (by omega) hy)
 rw [hxv] at HP1
 rw [hyv] at HP2
 have HBH := Lib.hid (fun W : World => behind_a j c 1 W (by omega) (by omega) (by omega) (by omega))
 rw [show ((c + 1 : Nat) : Int) = (c : Int) + 1 by omega] at HP2
 generalize (c : Int) + 1 = c1 at *
 have HO := Lib.hid (offOf_l 0 p1 p2)
 have hb0 := (Below.refl w.heap.size w).alloc (Nat.le_refl _) (.cells #[.int .i64 (j : Int), .int .i64 (c : Int)] 58)
 have hb1 := hb0.alloc (by simp) (.cells #[.int .i64 0, .int .i64 0] 58)
 have hr0 : ((w.alloc (.cells #[.int .i64 (j : Int), .int .i64 (c : Int)] 58)).alloc (.cells #[.int .i64 0, .int .i64 0] 58)).heap[w.heap.size]? = some (.cells #[.int .i64 (j : Int), .int .i64 (c : Int)] 58 (0, 0)) := heap_alloc2_old w _ _
 have hr1 : ((w.alloc (.cells #[.int .i64 (j : Int), .int .i64 (c : Int)] 58)).alloc (.cells #[.int .i64 0, .int .i64 0] 58)).heap[w.heap.size + 1]? = some (.cells #[.int .i64 0, .int .i64 0] 58 (0, 0)) := heap_alloc2_new w _ _
 have HB := Lib.hid hb1
 have R0 := Lib.hid hr0
 have R1 := Lib.hid hr1
 have t1 := ta_str_far
 have t2 := ta_lis_far
 have t3 := ta_far_far
 obtain ⟨c0, c1'⟩ := cell_pair hr0
 clear h hc hx hy hxv hyv hsm hb0 hb1 hr0 hr1
 go_enter Tryz.func130, Tryz.ntmps130
 go_wp2_with fail
 generalize (w.alloc (.cells #[.int .i64 (j : Int), .int .i64 (c : Int)] 58)).alloc (.cells #[.int .i64 0, .int .i64 0] 58) = W at *
 refine (HH.out _ HB.out).mono ?_
 rintro e w1 ⟨rfl, hb1⟩
 have HB1 := Lib.hid (HB.out.trans (hb1.mono HB.out.size))
 have S0 := Lib.hid ((hb1.block _ (row_lt R0.out)).trans R0.out)
 have S1 := Lib.hid ((hb1.block _ (row_lt R1.out)).trans R1.out)
 clear c0 c1' hb1
 obtain ⟨c0, c1'⟩ := cell_pair S0.out
 go_wp2_with fail
 refine (HP1.out _ HB1.out).mono ?_
 rintro e w2 ⟨rfl, hb2⟩
 have hba := hb2.alloc hb2.size (.cells #[.int .i64 fo, .int .i64 fg, .bool false] 172)
 have FN := Lib.hid (heap_alloc_new w2 (.cells #[.int .i64 fo, .int .i64 fg, .bool false] 172))
 have HB2 := Lib.hid (HB1.out.trans (hba.mono HB1.out.size))
 have T0 := Lib.hid ((hba.block _ (row_lt S0.out)).trans S0.out)
 have T1 := Lib.hid ((hba.block _ (row_lt S1.out)).trans S1.out)
 clear c0 c1' hb2 hba
 obtain ⟨c0, c1'⟩ := cell_pair T0.out
 go_wp2_with fail
 generalize w2.alloc (.cells #[.int .i64 fo, .int .i64 fg, .bool false] 172) = W3 at *
 generalize w2.heap.size = fb at *
 refine (HBH.out _).mono ?_
 rintro e w4 ⟨rfl, hb4⟩
 have HB4 := Lib.hid (HB2.out.trans (hb4.mono HB2.out.size))
 have U1 := Lib.hid ((hb4.block _ (row_lt T1.out)).trans T1.out)
 have FN4 := Lib.hid ((hb4.block _ (row_lt FN.out)).trans FN.out)
 clear c0 c1' hb4
 go_wp2_with fail
 refine (HP2.out _ HB4.out).mono ?_
 rintro e w5 ⟨rfl, hb5⟩
 have HB5 := Lib.hid (HB4.out.trans (hb5.mono HB4.out.size))
 have V1 := Lib.hid ((hb5.block _ (row_lt U1.out)).trans U1.out)
 have FN5 := Lib.hid ((hb5.block _ (row_lt FN4.out)).trans FN4.out)
 clear hb5
 go_wp2_with fail
 refine (HO.out _).mono ?_
 rintro e w6 ⟨rfl, hb6⟩
 have HB6 := Lib.hid (HB5.out.trans (hb6.mono HB5.out.size))
 have x1 := (hb6.block _ (row_lt V1.out)).trans V1.out
 have xf := (hb6.block _ (row_lt FN5.out)).trans FN5.out
 have X1 := Lib.hid x1
 obtain ⟨d0, d1⟩ := cell_pair x1
 have f0 := row_free x1 0
 have f1 := row_free x1 1
 have g0 : w6.cell? ⟨fb, 0, none⟩ = some (.int .i64 fo) := (by rw [cell_of_row _ _ _ _ _ _ xf]; rfl)
 have g1 : w6.cell? ⟨fb, 1, none⟩ = some (.int .i64 fg) := (by rw [cell_of_row _ _ _ _ _ _ xf]; rfl)
 have g2 : w6.cell? ⟨fb, 2, none⟩ = some (.bool false) := (by rw [cell_of_row _ _ _ _ _ _ xf]; rfl)
 clear hb6 x1 xf t1 t2 t3
 go_wp2_with fail
 go_region
 all_goals
  have hq := pair_set2 X1.out (.int .i64 fg) (.int .i64 fo)
  have HBF := Lib.hid (keeps_below2 HB6.out w.heap.size (by omega) (.int .i64 fg) (.int .i64 fo))
  generalize ((w6.setCell ⟨w.heap.size + 1, 0, none⟩ (.int .i64 fg)).setCell ⟨w.heap.size + 1, 1, none⟩ (.int .i64 fo)) = wq at *
  have hq' : wq.drew.heap[w.heap.size + 1]? = some (.cells #[.int .i64 fg, .int .i64 fo] 58 (0, 0)) := hq
  obtain ⟨q0, q1⟩ := cell_pair hq'
  clear d0 d1 f0 f1 g0 g1 g2
  (try go_wp2)
  exact bodyPost_ret (v := .tuple #[liV 0 p1 p2, plV fg fo, .nilIface]) (by simp [results, Tryz.results130, go_sem, q0, q1]) rfl ⟨rfl, HBF.out.drew⟩
abbrev tiV (o g : Int) : Value := .iface 172 (.agg #[.int .i64 o, .int .i64 g, .bool true])
set_option maxHeartbeats 2000000 in
set_option maxRecDepth 10000 in
theorem followT {w : World} (rb : Nat) (V : Value) (fo fg s a ts ta : Int)
 (HT : ∀ W : World, Below w.heap.size w W → Calls Tryz.prog 130 #[.pointer (some ⟨rb, 0, none⟩), plV fg fo] W fun e w' => e = .returned (.tuple #[V, plV ts ta, .nilIface]) ∧ Below W.heap.size W w') :
 Calls Tryz.prog 86 #[.pointer (some ⟨rb, 0, none⟩), tiV fo fg, plV s a] w fun e w' => e = .returned (.tuple #[V, plV ts ta, .nilIface]) ∧ Below w.heap.size w w' := by
 have HTT := Lib.hid HT
 have hb3 := (((((Below.refl w.heap.size w).alloc (Nat.le_refl _) (.cells #[.int .i64 s, .int .i64 a] 58)).alloc (by simp) (.cells #[.int .i64 0, .int .i64 0] 58)).alloc (by simp <;> omega) (.cells #[.int .i64 fo, .int .i64 fg, .bool true] 172)).alloc (by simp <;> omega) (.cells #[.int .i64 fg, .int .i64 fo] 58))
 have t3 := ta_far_far
 clear HT
 go_enter Tryz.func86, Tryz.ntmps86
 go_wp2_with fail
 have hr1 : ((((w.alloc (.cells #[.int .i64 s, .int .i64 a] 58)).alloc (.cells #[.int .i64 0, .int .i64 0] 58)).alloc (.cells #[.int .i64 fo, .int .i64 fg, .bool true] 172)).alloc (.cells #[.int .i64 fg, .int .i64 fo] 58)).heap[w.heap.size + 1]? = some (.cells #[.int .i64 0, .int .i64 0] 58 (0, 0)) := (Below.heap_alloc _ _ _ (by simp <;> omega)).trans ((Below.heap_alloc _ _ _ (by simp)).trans (heap_alloc2_new w _ _))
 generalize (((w.alloc (.cells #[.int .i64 s, .int .i64 a] 58)).alloc (.cells #[.int .i64 0, .int .i64 0] 58)).alloc (.cells #[.int .i64 fo, .int .i64 fg, .bool true] 172)).alloc (.cells #[.int .i64 fg, .int .i64 fo] 58) = W at *
 refine (HTT.out _ hb3).mono ?_
 rintro e w5 ⟨rfl, hb5⟩
 have HB5 := Lib.hid (hb3.trans (hb5.mono hb3.size))
 have r1 := (hb5.block _ (row_lt hr1)).trans hr1
 have R1 := Lib.hid r1
 obtain ⟨d0, d1⟩ := cell_pair r1
 have f0 := row_free r1 0
 have f1 := row_free r1 1
 clear hb3 hb5 r1 hr1 t3
 go_wp2
 have hq := pair_set2 R1.out (.int .i64 ts) (.int .i64 ta)
 have HBF := Lib.hid (keeps_below2 HB5.out w.heap.size (by omega) (.int .i64 ts) (.int .i64 ta))
 generalize ((w5.setCell ⟨w.heap.size + 1, 0, none⟩ (.int .i64 ts)).setCell ⟨w.heap.size + 1, 1, none⟩ (.int .i64 ta)) = wq at *
 obtain ⟨q0, q1⟩ := cell_pair hq
 exact bodyPost_ret (v := .tuple #[V, plV ts ta, .nilIface]) (by simp [results, Tryz.results86, go_sem, q0, q1]) rfl ⟨rfl, HBF.out⟩
end Go.Proofs.YtlbfffokkhccaaaGreatDoor
namespace Go.Proofs.YtlbfffokkhccaaaGreatDoor
end Go.Proofs.YtlbfffokkhccaaaGreatDoor
namespace Go.Proofs.YtlbfffokkhccaaaGreatDoor
def ThrW (L size : Nat) (hd x y : List UInt8) (wr wr' : Wr) (Q : Nd → Prop) (f : Nd → Nat) : Prop := ∀ p s a, Q p → s.length % 8 = 0 → a < wn s → wn s + 1 + f p ≤ size → wn s + 1 + f p ≤ L → ∃ s1, wr p [hd ++ s] 0 (a + 1) = some [hd ++ s1] ∧ wr' p [x, y, s] 2 a = some [x, y, s1] ∧ s1.length = s.length + 8 * f p
theorem ptrs_thr {L size : Nat} {hd x y : List UInt8} (hh : hd.length = 8) {wr wr' : Wr} {Q : Nd → Prop} {f : Nd → Nat} (hw : ThrW L size hd x y wr wr' Q f) : ∀ (l : List Nd) (s : List UInt8) (a : Nat), (∀ p ∈ l, Q p) → s.length % 8 = 0 → a + l.length ≤ wn s → wn s + 1 + (l.map f).sum ≤ size → wn s + 1 + (l.map f).sum ≤ L → ∃ s1, ptrsP wr l [hd ++ s] 0 (a + 1) = some [hd ++ s1] ∧ ptrsP wr' l [x, y, s] 2 a = some [x, y, s1] ∧ s1.length = s.length + 8 * (l.map f).sum
 | [], s, a, _, _, _, _, _ => ⟨s, rfl, rfl, by simp⟩
 | p :: t, s, a, hq, h8, ha, h1, h2 => by
   simp only [List.length_cons] at ha
   simp only [List.map_cons, List.sum_cons] at h1 h2 ⊢
   obtain ⟨s1, e1, E1, l1⟩ := hw p s a (hq p (List.mem_cons_self ..)) h8 (by omega) (by omega) (by omega)
   have e : wn s1 = wn s + f p := by unfold wn; omega
   obtain ⟨s2, e2, E2, l2⟩ := ptrs_thr hh hw t s1 (a + 1) (fun q hm => hq q (List.mem_cons_of_mem _ hm)) (by omega) (by omega) (by omega) (by omega)
   exact ⟨s2, by simp only [ptrsP, e1, Option.bind_some]; exact e2, by simp only [ptrsP, E1, Option.bind_some]; exact E2, by omega⟩
theorem spl_hd {hd : List UInt8} (hh : hd.length = 8) (t u : List UInt8) (a : Nat) : spl (hd ++ t) (8 * (a + 1)) u = hd ++ spl t (8 * a) u := by
 unfold spl
 rw [show 8 * (a + 1) = hd.length + 8 * a by omega, show hd.length + 8 * a + u.length = hd.length + (8 * a + u.length) by omega, List.take_length_add_append, List.drop_length_add_append]
 simp only [List.append_assoc]
theorem put_thr {hd : List UInt8} (hh : hd.length = 8) (x y s t : List UInt8) (a : Nat) : putS [hd ++ s] 0 (a + 1) t = [hd ++ spl s (8 * a) t] ∧ putS [x, y, s] 2 a t = [x, y, spl s (8 * a) t] := ⟨by rw [← spl_hd hh]; rfl, rfl⟩
theorem wn_hd {hd : List UInt8} (hh : hd.length = 8) (s : List UInt8) : wn (hd ++ s) = wn s + 1 := by unfold wn; rw [List.length_append]; omega
theorem body_thr {L size : Nat} {hd x y : List UInt8} (hh : hd.length = 8) {wr wr' : Wr} {Q : Nd → Prop} {f : Nd → Nat} (hw : ThrW L size hd x y wr wr' Q f) {n : Nd} {s : List UInt8} {a : Nat} (hq : ∀ p ∈ n.ptrs, Q p) (h8 : s.length % 8 = 0) (ha : a + ownB n ≤ wn s) (h1 : wn s + 1 + (n.ptrs.map f).sum ≤ size) (h2 : wn s + 1 + (n.ptrs.map f).sum ≤ L) : ∃ s1, bodyP wr n [hd ++ s] 0 (a + 1) = some [hd ++ s1] ∧ bodyP wr' n [x, y, s] 2 a = some [x, y, s1] ∧ s1.length = s.length + 8 * (n.ptrs.map f).sum := by
 unfold bodyP
 rw [(put_thr hh x y _ _ _).1, (put_thr hh x y _ _ _).2]
 have hl : (spl s (8 * a) n.data.data.toList).length = s.length := spl_length (by have h8 := wds_len (ss := [s]) (fun i => by cases i with | zero => exact h8 | succ i => rfl) 0; rw [data_toList]; unfold ownB at ha; have : sgS [s] 0 = s := rfl; rw [this] at h8; omega)
 have hwn : wn (spl s (8 * a) n.data.data.toList) = wn s := by unfold wn; rw [hl]
 obtain ⟨s1, e1, E1, l1⟩ := ptrs_thr hh hw n.ptrs (spl s (8 * a) n.data.data.toList) (a + (n.data.size + 7) / 8) hq (by omega) (by rw [hwn]; unfold ownB at ha; omega) (by omega) (by omega)
 rw [hl] at l1
 exact ⟨s1, by rw [show a + 1 + (n.data.size + 7) / 8 = a + (n.data.size + 7) / 8 + 1 by omega]; exact e1, E1, l1⟩
theorem items_thr {L size : Nat} {hd x y : List UInt8} (hh : hd.length = 8) {wr wr' : Wr} {Q : Nd → Prop} {f : Nd → Nat} (hw : ThrW L size hd x y wr wr' Q f) (each : Nat) : ∀ (l : List Nd) (s : List UInt8) (a : Nat), (∀ y ∈ l, ownB y = each ∧ ∀ p ∈ y.ptrs, Q p) → s.length % 8 = 0 → a + l.length * each ≤ wn s → wn s + 1 + (l.map fun y => (y.ptrs.map f).sum).sum ≤ size → wn s + 1 + (l.map fun y => (y.ptrs.map f).sum).sum ≤ L → ∃ s1, itemsP wr each l [hd ++ s] 0 (a + 1) = some [hd ++ s1] ∧ itemsP wr' each l [x, y, s] 2 a = some [x, y, s1] ∧ s1.length = s.length + 8 * (l.map fun y => (y.ptrs.map f).sum).sum
 | [], s, a, _, _, _, _, _ => ⟨s, rfl, rfl, by simp⟩
 | y :: t, s, a, hq, h8, ha, h1, h2 => by
   simp only [List.length_cons, Nat.add_mul, Nat.one_mul] at ha
   simp only [List.map_cons, List.sum_cons] at h1 h2 ⊢
   obtain ⟨hy, hyp⟩ := hq y (List.mem_cons_self ..)
   obtain ⟨s1, e1, E1, l1⟩ := body_thr hh (a := a) hw hyp h8 (by rw [hy]; omega) (show wn s + 1 + (y.ptrs.map f).sum ≤ size by omega) (show wn s + 1 + (y.ptrs.map f).sum ≤ L by omega)
   have e : wn s1 = wn s + (y.ptrs.map f).sum := by unfold wn; omega
   obtain ⟨s2, e2, E2, l2⟩ := items_thr hh hw each t s1 (a + each) (fun q hm => hq q (List.mem_cons_of_mem _ hm)) (by omega) (by omega) (by omega) (by omega)
   exact ⟨s2, by simp only [itemsP, e1, Option.bind_some]; rw [show a + 1 + each = a + each + 1 by omega]; exact e2, by simp only [itemsP, E1, Option.bind_some]; exact E2, by omega⟩
theorem fill_thr {L size : Nat} {hd x y : List UInt8} (hh : hd.length = 8) {wr wr' : Wr} {Q : Nd → Prop} {f : Nd → Nat} (hw : ThrW L size hd x y wr wr' Q f) {n : Nd} {s : List UInt8} {a : Nat} (hf : formN n = true) (hq : ∀ p ∈ ptrsL n, Q p) (h8 : s.length % 8 = 0) (ha : a + ownN n ≤ wn s) (h1 : wn s + 1 + ((ptrsL n).map f).sum ≤ size) (h2 : wn s + 1 + ((ptrsL n).map f).sum ≤ L) : ∃ s1, fillP wr n [hd ++ s] 0 (a + 1) = some [hd ++ s1] ∧ fillP wr' n [x, y, s] 2 a = some [x, y, s1] ∧ s1.length = s.length + 8 * ((ptrsL n).map f).sum := by
 have hsum : ((ptrsL n).map f).sum = (n.ptrs.map f).sum + (n.items.map fun y => (y.ptrs.map f).sum).sum := by unfold ptrsL; rw [List.map_append, List.sum_append, flat_sum]
 unfold fillP
 split
 · rename_i hm
   obtain ⟨g1, g2, g3⟩ := own_many hf hm
   have e0 : (n.ptrs.map f).sum = 0 := by rw [g3]; rfl
   rw [(put_thr hh x y _ _ _).1, (put_thr hh x y _ _ _).2]
   have hl : (spl s (8 * a) (tagW n)).length = s.length := spl_length (by rw [tagW_length]; unfold wn at ha; omega)
   have hwn : wn (spl s (8 * a) (tagW n)) = wn s := by unfold wn; rw [hl]
   obtain ⟨s1, e1, E1, l1⟩ := items_thr hh hw (itD n + itP n) n.items (spl s (8 * a) (tagW n)) (a + 1) (fun y hy => ⟨item_own g1 y hy, fun p hp => hq p (List.mem_append_right _ (List.mem_flatMap.2 ⟨y, hy, hp⟩))⟩) (by omega) (by omega) (by omega) (by omega)
   exact ⟨s1, e1, E1, by omega⟩
 · rename_i hm
   obtain ⟨g1, g2⟩ := own_plain hf hm
   have e0 : (n.items.map fun y => (y.ptrs.map f).sum).sum = 0 := by rw [g2]; rfl
   obtain ⟨s1, e1, E1, l1⟩ := body_thr hh (a := a) hw (fun p hp => hq p (List.mem_append_left _ hp)) h8 (by omega) (show wn s + 1 + (n.ptrs.map f).sum ≤ size by omega) (show wn s + 1 + (n.ptrs.map f).sum ≤ L by omega)
   exact ⟨s1, e1, E1, by omega⟩
theorem wr_thr (L size : Nat) {hd : List UInt8} (hh : hd.length = 8) (x y : List UInt8) : ∀ d, ThrW L size hd x y (wrP L size d) (wrP (L + wn x + wn y) size d) (fun n => okN d n = true) (wordsN d)
 | 0 => fun p s a _ _ _ _ _ => ⟨s, rfl, rfl, rfl⟩
 | d + 1 => fun n s a hn h8 ha h1 h2 => by
   have hf := ok_formN hn
   simp only [wrP]
   split
   · rename_i hk0
     exact ⟨s, rfl, rfl, by rw [(none_words (d := d + 1) hf hk0).2]; rfl⟩
   · rename_i hk0
     have e3 : wordsN (d + 1) n = ownN n + ((ptrsL n).map (wordsN d)).sum := rfl
     split
     · rename_i hp
       refine ⟨_, by rw [(put_thr hh x y _ _ _).1], by rw [(put_thr hh x y _ _ _).2], ?_⟩
       rw [spl_length (by rw [ptrW_length]; unfold wn at ha; omega), e3, hp, own_none hf hp]
       rfl
     · rename_i hp
       have hr : roomP L size n [hd ++ s] 0 (a + 1) = some ([hd ++ spl (s ++ zer (ownN n)) (8 * a) (ptrW n ((wn s : Int) - a - 1))], 0, wn s + 1) := by
        unfold roomP
        have hs : sgS [hd ++ s] 0 = hd ++ s := rfl
        have ht : totS [hd ++ s] = wn s + 1 := by simp [totS, wn_hd hh]
        rw [hs, ht, wn_hd hh, if_pos (by omega), if_pos (by omega), show ((wn s + 1 : Nat) : Int) - ((a + 1 : Nat) : Int) - 1 = (wn s : Int) - a - 1 by omega]
        show some (putS [hd ++ s ++ zer (ownN n)] 0 (a + 1) _, 0, wn s + 1) = _
        rw [List.append_assoc, (put_thr hh x y _ _ _).1]
       have hr' : roomP (L + wn x + wn y) size n [x, y, s] 2 a = some ([x, y, spl (s ++ zer (ownN n)) (8 * a) (ptrW n ((wn s : Int) - a - 1))], 2, wn s) := by
        unfold roomP
        have hs : sgS [x, y, s] 2 = s := rfl
        have ht : totS [x, y, s] = wn x + (wn y + wn s) := by simp [totS]
        rw [hs, ht, if_pos (by omega), if_pos (by omega)]
        rfl
       rw [hr, hr', Option.bind_some, Option.bind_some]
       have hl : (spl (s ++ zer (ownN n)) (8 * a) (ptrW n ((wn s : Int) - a - 1))).length = s.length + 8 * ownN n := by
        rw [spl_length (by rw [ptrW_length, List.length_append]; unfold wn at ha; omega), List.length_append, zer_length]
       have hwn : wn (spl (s ++ zer (ownN n)) (8 * a) (ptrW n ((wn s : Int) - a - 1))) = wn s + ownN n := by unfold wn at hl ⊢; rw [hl]; omega
       obtain ⟨s1, g1, G1, g2⟩ := fill_thr hh (wr_thr L size hh x y d) hf (ok_within hn hk0) (s := spl (s ++ zer (ownN n)) (8 * a) (ptrW n ((wn s : Int) - a - 1))) (a := wn s) (by omega) (by omega) (by omega) (by omega)
       exact ⟨s1, g1, G1, by omega⟩
theorem wrP_succ (L size d : Nat) (n : Nd) (ss : Segs) (i a : Nat) : wrP L size (d + 1) n ss i a = if n.kind = 0 then some ss else if ownN n = 0 then some (putS ss i a (ptrW n (if n.kind = 1 then -1 else 0))) else (roomP L size n ss i a).bind fun r => fillP (wrP L size d) n r.1 r.2.1 r.2.2 := rfl
theorem build_thr {n : Nd} (h : nodeOk n = true) (hk : n.kind ≠ 0) (ho : ownN n ≠ 0) (x y : List UInt8) (hx : x.length = 8) (hy : y.length = 16) {s : List UInt8} (hs : buildP 200 200 n = some [s]) :
 ∃ t, s = ptrW n 0 ++ t ∧ t.length % 8 = 0 ∧ FillR (RepN [x, y, t] 7) [x, y, t] n 2 0 ∧ ownN n ≤ wn t := by
 obtain ⟨h1, h2⟩ := node_ok h
 have hf := ok_formN h1
 have hwx : wn x = 1 := by unfold wn; omega
 have hwy : wn y = 2 := by unfold wn; omega
 have hwd : wordsN 8 n = ownN n + ((ptrsL n).map (wordsN 7)).sum := rfl
 have hwz : wn (zer (ownN n)) = ownN n := by unfold wn; rw [zer_length]; omega
 obtain ⟨t, g1, g2, g3⟩ := fill_thr (ptrW_length n 0) (x := x) (y := y) (wr_thr 200 200 (ptrW_length n 0) x y 7) hf (ok_within h1 hk) (s := zer (ownN n)) (a := 0) (by rw [zer_length]; omega) (by omega) (by omega) (by omega)
 have e0 : spl (zer 1 ++ zer (ownN n)) (8 * 0) (ptrW n 0) = ptrW n 0 ++ zer (ownN n) := by
  unfold spl
  rw [ptrW_length]
  show [] ++ ptrW n 0 ++ List.drop (8 * 0 + 8) (zer 1 ++ zer (ownN n)) = _
  rw [List.nil_append, show 8 * 0 + 8 = (zer 1).length by decide, List.drop_left]
 have hr : roomP 200 200 n [zer 1] 0 0 = some ([ptrW n 0 ++ zer (ownN n)], 0, 1) := by
  unfold roomP
  have hs : sgS [zer 1] 0 = zer 1 := rfl
  have hw1 : wn (zer 1) = 1 := by decide
  have ht : totS [zer 1] = 1 := by decide
  rw [hs, ht, hw1, if_pos (by omega), if_pos (by omega), ← e0]
  rfl
 unfold buildP at hs
 rw [wrP_succ 200 200 7, if_neg hk, if_neg ho, hr, Option.bind_some] at hs
 have hst : s = ptrW n 0 ++ t := by
  rw [show (1 : Nat) = 0 + 1 from rfl] at hs
  rw [g1] at hs
  injection hs with hs
  injection hs with hs
  exact hs.symm
 rw [hwx, hwy] at g2
 have hso : SOk 203 [x, y, zer (ownN n)] := ⟨fun i => by rcases i with _ | _ | _ | i <;> simp [sgS, hx, hy, zer_length], by simp, by simp, by simp [totS, hwx, hwy, hwz]; omega⟩
 have hz : HasT [x, y, zer (ownN n)] 2 (8 * 0) (zer (ownN n)) := fun q hq => by
  show (zer (ownN n))[8 * 0 + q]? = _
  rw [Nat.mul_zero, Nat.zero_add]
 have hfl := fill_rep (wr_some 203 200 7) (wr_rep 203 200 7) hf (ok_within h1 hk) hso (i := 2) (a := 0) (by simp) (by show 0 + ownN n ≤ wn (zer (ownN n)); omega) hz g2
 exact ⟨t, hst, by rw [g3, zer_length]; omega, hfl.2 _ (fun _ _ _ => rfl), by unfold wn; rw [g3, zer_length]; omega⟩
end Go.Proofs.YtlbfffokkhccaaaGreatDoor
namespace Go.Proofs.YtlbfffokkhccaaaGreatDoor
open Go.RowKit Go.Deep
theorem ptI_3t (o g : Int) : ptI (3, o, 0, 0, 0, 0, g, true) = tiV o g := by simp [ptI, ptif]
def farT : List UInt8 := leB 6 4 ++ leB 1 4
theorem rd_farT : RdW farT (3, 0, 0, 0, 0, 0, 1, true) := by
 refine ⟨by decide, ?_⟩
 obtain ⟨h1, h2⟩ := two_of 6 1 (by decide) (by decide) (by decide) (by decide)
 exact getP_far 0 1 true _ _ (by unfold farT; rw [h1]; rfl) (by unfold farT; exact h2) (by decide)
theorem ptG_two {w : World} {rb cap : Nat} {A : Option Addr} {zs : List ByteArray} {L : Int} (h : Rdr w rb A cap zs L) (n : Nd) (fo fg : Int) (j c : Nat) (hj : j < zs.length) (hc : c + 2 ≤ (zs[j]).size / 8) {x : Int × Int × Int × Int × Int × Int × Int × Bool} (hx : RdW (((zs[j]).data.toList.drop (8 * c)).take 8) x) (hxv : ptI x = fiV fo fg) (hy : RdW (((zs[j]).data.toList.drop (8 * (c + 1))).take 8) (ptG n 0)) :
 Calls Tryz.prog 130 #[.pointer (some ⟨rb, 0, none⟩), plV j c] w fun e w' => e = .returned (.tuple #[ptI (ptG n 0), plV fg fo, .nilIface]) ∧ Below w.heap.size w w' := by
 by_cases hk : n.kind = 1
 · have e : ptI (ptG n 0) = siV 0 (n.data.size / 8 : Nat) (n.ptrs.length : Nat) := by unfold ptG; rw [if_pos hk, ptI_1]
   rw [e]
   exact followTwo_s h _ _ fo fg j c hj hc hx hxv hy e
 · have e : ptI (ptG n 0) = liV 0 n.size (if n.size = 7 then (ownN n : Int) - 1 else n.count) := by unfold ptG; rw [if_neg hk, ptI_2]
   rw [e]
   exact followTwo_l h _ _ fo fg j c hj hc hx hxv hy e
set_option maxHeartbeats 1000000 in
theorem two_read (A : Option Addr) (cap : Nat) (X Y T : ByteArray) (w : World) (n : Nd) (h : Strs w A [X, Y, T]) (hX : X.data.toList = farT) (hY : Y.data.toList = farW 0 2 ++ ptrW n 0) (hT8 : T.size % 8 = 0) (hT : T.size ≤ 1576) (hok : nodeOk n = true) (hk : n.kind ≠ 0) (ho : ownN n ≠ 0) (hc : costN 8 n ≤ 1000) (hf : FillR (RepN [X.data.toList, Y.data.toList, T.data.toList] 7) [X.data.toList, Y.data.toList, T.data.toList] n 2 0) (hw : ownN n ≤ T.size / 8) :
 Calls Tryz.prog 15 #[.slice A 3 cap, .int .i64 1000] w (ReadQ n w) := by
 have hXs : X.size = 8 := by rw [← data_toList, hX]; rfl
 have hYs : Y.size = 16 := by rw [← data_toList, hY, List.length_append, farW_length, ptrW_length]
 have hz : sgz [X, Y, T] = [X.data.toList, Y.data.toList, T.data.toList] := rfl
 rw [← hz] at hf
 obtain ⟨hn, hwn⟩ := node_ok hok
 have fn := ok_formN hn
 have hwd := words_kids hn
 have pn := pt_ok fn (by omega) hk
 have hfr : frOk [X, Y, T] = true := by
  unfold frOk tot
  simp only [List.length_cons, List.length_nil, List.all_cons, List.all_nil, List.map_cons, List.map_nil, List.sum_cons, List.sum_nil, Bool.and_eq_true, decide_eq_true_eq, hXs, hYs]
  exact ⟨by decide, ⟨by decide, by decide, hT8, trivial⟩, by omega⟩
 have hrd : RdW (ptrW n 0) (ptG n 0) := rd_ptr pn (by decide) (fun x => by
  obtain ⟨x1, x2, x3, x4⟩ := x
  have he := (own_plain fn (by omega)).1
  rcases form_cases fn with q | q | q
  · omega
  · apply ho; rw [he]; unfold ownB; omega
  · omega)
 have r0 : HasT (sgz [X, Y, T]) 0 (8 * 0) farT := fun q hq => by
  show X.data.toList[8 * 0 + q]? = _
  rw [hX, Nat.mul_zero, Nat.zero_add]
 have r1 : HasT (sgz [X, Y, T]) 1 (8 * 0) (farW 0 2) := fun q hq => by
  show Y.data.toList[8 * 0 + q]? = _
  rw [hY, Nat.mul_zero, Nat.zero_add, List.getElem?_append_left hq]
 have r2 : HasT (sgz [X, Y, T]) 1 (8 * (0 + 1)) (ptrW n 0) := fun q hq => by
  show Y.data.toList[8 * (0 + 1) + q]? = _
  rw [hY, List.getElem?_append_right (by rw [farW_length]; omega), farW_length]
  congr 1
  omega
 have := implRead_g A cap [X, Y, T] 1000 w n (1000 - (costN 8 n : Nat)) h hfr (by decide) (by decide) (by simp) (by show 8 ≤ X.size; omega) (fun W x y g1 g2 g3 => by
  have hB : Bx W (w.heap.size + 1) x y (7 + 1) := ⟨g2, g3⟩
  obtain ⟨hi, p1, p2⟩ := at_word g1 r0 rd_farT
  obtain ⟨hj, p3, p4⟩ := at_word g1 r1 (rd_far (pad := 0) (j := 2) (by omega) (by omega))
  obtain ⟨hj', p5, p6⟩ := at_word g1 r2 hrd
  refine closure_ptr (d := 7) g1 hB (by decide) n 0 0 2 0 (tiV 0 1) (ptI (ptG n 0)) (fun V hV => by have := pointerAt_a hV 0 0 hi p1 p2; rwa [ptI_3t] at this) (ta_far_noP _) (fun V hV => ?_) (fun V x y hK hV hBV => node_a (inC_all 7 (by decide)) hV hBV hn hwn hk 0 2 0 (by simp) (by show 0 + ownN n ≤ T.size / 8; omega) hf (by decide) (by show (costN 8 n : Int) ≤ 1000; omega))
  exact followT (w.heap.size + 1) (ptI (ptG n 0)) 0 1 0 0 2 0 (fun U hU => ptG_two (hV.below hU) n 0 2 1 0 hj (by show 0 + 2 ≤ Y.size / 8; omega) p4 (ptI_3 _ _) p6))
 exact this
end Go.Proofs.YtlbfffokkhccaaaGreatDoor
namespace Go.Proofs.YtlbfffokkhccaaaGreatDoor
open Go.RowKit
def Arg (w : World) (a : Option Addr) (len cap : Nat) : Prop := Code w w.heap.size a len ∧ len ≤ cap ∧ (a = none → len = 0)
theorem opened_below {w w1 w2 : World} {R n : Nat} (hR : w.heap.size ≤ R) (hb : Below w.heap.size w w1) (hp : Picked w1 R n w2) : Below w.heap.size w w2 :=
 hb.trans (hp.2.below hb.size hR)
theorem arg_nil (w : World) : Arg w none 0 0 := ⟨⟨by decide, .inl rfl⟩, Nat.le_refl _, fun _ => rfl⟩
theorem wf_u8 {n : Int} (h : (Lit.int .u8 n).wf = true) : ∃ b : UInt8, n = (b.toNat : Int) := by
 simp [Lit.wf, IntKind.min, IntKind.max, IntKind.bits, IntKind.signed] at h
 refine ⟨UInt8.ofNat n.toNat, ?_⟩
 rw [UInt8.toNat_ofNat']
 omega
theorem arg_row {w : World} {x : Addr} {l c : Nat} {zs : List Int} (hl : l ≤ c) (hm : c ≤ maxLen) (hz : zs.length = c) (hcell : ∀ i, i < zs.length → w.cell? (x.add i) = some (.int .u8 (zs.getD i 0))) (hwz : ∀ n ∈ zs, (Lit.int .u8 n).wf = true) :
 Arg w (some x) l c := by
 refine ⟨⟨Nat.le_trans hl hm, ?_⟩, hl, fun h => by cases h⟩
 by_cases h0 : l = 0
 · exact .inl h0
 · refine .inr ⟨x, rfl, ?_, fun i hi => ?_⟩
   · have h := World.block_lt_of_cell? w _ (hcell 0 (by omega))
     rwa [addr_block] at h
   · have hi' : i < zs.length := by omega
     obtain ⟨b, hb⟩ := wf_u8 (hwz zs[i] (List.getElem_mem hi'))
     refine ⟨b, ?_⟩
     rw [hcell i hi', List.getD, List.getElem?_eq_getElem hi', ← hb]
     rfl
end Go.Proofs.YtlbfffokkhccaaaGreatDoor
namespace Go.Proofs.YtlbfffokkhccaaaGreatDoor
open Go.RowKit
theorem then_n {a w w1 : World} (h : Below a.heap.size a w) (hb : Below w.heap.size w w1) : Below a.heap.size a w1 := h.trans (hb.mono h.size)
end Go.Proofs.YtlbfffokkhccaaaGreatDoor