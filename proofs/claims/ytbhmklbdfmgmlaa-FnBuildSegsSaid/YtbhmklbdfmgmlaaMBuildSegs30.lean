/- Texts of the proof of the law FnBuildSegs, side by side: part 30. -/
import Derived.Laws.OwnMore
import Derived.OwnWalk
import Derived.Deep.QuietTactic
import Derived.BigQuiet
import Derived.Test.YtbhmklbdfmgmlaaMBuildSegs00
import Derived.Test.YtbhmklbdfmgmlaaMBuildSegs01
import Derived.Test.YtbhmklbdfmgmlaaMBuildSegs02
import Derived.Test.YtbhmklbdfmgmlaaMBuildSegs03
import Derived.Test.YtbhmklbdfmgmlaaMBuildSegs04
import Derived.Test.YtbhmklbdfmgmlaaMBuildSegs05
import Derived.Test.YtbhmklbdfmgmlaaMBuildSegs06
import Derived.Test.YtbhmklbdfmgmlaaMBuildSegs07
import Derived.Test.YtbhmklbdfmgmlaaMBuildSegs08
import Derived.Test.YtbhmklbdfmgmlaaMBuildSegs09
import Derived.Test.YtbhmklbdfmgmlaaMBuildSegs10
import Derived.Test.YtbhmklbdfmgmlaaMBuildSegs11
import Derived.Test.YtbhmklbdfmgmlaaMBuildSegs12
import Derived.Test.YtbhmklbdfmgmlaaMBuildSegs13
import Derived.Test.YtbhmklbdfmgmlaaMBuildSegs14
import Derived.Test.YtbhmklbdfmgmlaaMBuildSegs15
import Derived.Test.YtbhmklbdfmgmlaaMBuildSegs16
import Derived.Test.YtbhmklbdfmgmlaaMBuildSegs17
import Derived.Test.YtbhmklbdfmgmlaaMBuildSegs18
import Derived.Test.YtbhmklbdfmgmlaaMBuildSegs19
import Derived.Test.YtbhmklbdfmgmlaaMBuildSegs20
import Derived.Test.YtbhmklbdfmgmlaaMBuildSegs21
import Derived.Test.YtbhmklbdfmgmlaaMBuildSegs22
import Derived.Test.YtbhmklbdfmgmlaaMBuildSegs23
import Derived.Test.YtbhmklbdfmgmlaaMBuildSegs24
import Derived.Test.YtbhmklbdfmgmlaaMBuildSegs25
import Derived.Test.YtbhmklbdfmgmlaaMBuildSegs26
import Derived.Test.YtbhmklbdfmgmlaaMBuildSegs27
import Derived.Test.YtbhmklbdfmgmlaaMBuildSegs28
import Derived.Test.YtbhmklbdfmgmlaaMBuildSegs29
/- The program's Build, of a node that is ok. -/
namespace Go.Proofs.Ytbhmklbdfmgmlaa
open Go.RowKit Go.Deep
/-- what a panic leaves in a frame whose two results are named. -/
def PanQ (t4 t5 : Value) (ds : List Deferred) (RR : List PanicEntry → World → Prop) (Q : Exit → Act → World → Prop) : Exit → Act → World → Prop
  | .panic c, a, w => (a.tmps.getD 4 undef = t4 ∧ a.tmps.getD 5 undef = t5 ∧ a.defers = ds) ∧ RR c w
  | e, a, w => Q e a w
theorem WDS1 : WdS ([] ++ [[]]) := fun i => by
  match i with
  | 0 => rfl
  | i + 1 => rfl
theorem SOK1 : SOk 200 [zer 1] := ⟨fun i => by
  match i with
  | 0 => rfl
  | i + 1 => rfl, by decide, by decide, by decide⟩
theorem wp_region_panq {P : Program} {id : Nat} {ops : Array Oper} {b : Bool} {Q : Exit → Act → World → Prop} {a : Act} {w : World} {t4 t5 : Value} {ds : List Deferred} {RR : List PanicEntry → World → Prop}
    (h : ∀ c a w, a.tmps.getD 4 undef = t4 → a.tmps.getD 5 undef = t5 → a.defers = ds → RR c w → Q (.panic c) a w) (hr : (Code.region id ops b).wp P (PanQ t4 t5 ds RR Q) a w) : (Code.region id ops b).wp P Q a w :=
  Code.wp_mono (fun e a w hh => by
    cases e <;> first | exact hh | exact h _ _ _ hh.1.1 hh.1.2.1 hh.1.2.2 hh.2) hr
theorem panq_normal {t4 t5 : Value} {ds : List Deferred} {RR : List PanicEntry → World → Prop} {Q : Exit → Act → World → Prop} {a : Act} {w : World} (h : Q .normal a w) : PanQ t4 t5 ds RR Q .normal a w := h
theorem own_low {w : World} {B B' T sz n : Nat} {v : Value} {xs : List Value} (h : w.ownsRow B T sz v n xs) (hB : B' ≤ B) : w.ownsRow B' T sz v n xs := ⟨h.1, h.2.imp id (fun ⟨g, cap, cur, h1, h2, h3⟩ => ⟨g, cap, cur, h1, Nat.le_trans hB h2, h3⟩)⟩
theorem panq_put {t4 t5 : Value} {ds : List Deferred} {RR : List PanicEntry → World → Prop} {Q : Exit → Act → World → Prop} {c : List PanicEntry} {a : Act} {w : World} {d : Nat} {v : Value} (h4 : d ≠ 4) (h5 : d ≠ 5) (h : PanQ t4 t5 ds RR Q (.panic c) (a.put (some d) v) w) : PanQ t4 t5 ds RR Q (.panic c) a w := by
  obtain ⟨⟨g4, g5, g6⟩, hR⟩ := h
  refine ⟨⟨?_, ?_, g6⟩, hR⟩
  · rw [← g4]; simp [Act.put, Array.getD_eq_getD_getElem?, Array.getElem?_setIfInBounds, h4]
  · rw [← g5]; simp [Act.put, Array.getD_eq_getD_getElem?, Array.getElem?_setIfInBounds, h5]
set_option maxHeartbeats 4000000 in
set_option maxRecDepth 100000 in
theorem implBuild_yes (m : Nat) (n : Nd) (h : Hd) (w : World) (S : Nat → Prop) (size : Nat) (hn : NdAt w S m n h) (ht : totN m n ≤ 2000000) (hok : nodeOk n = true) (h1 : 1 ≤ size) (h200 : size ≤ 200) :
    Calls Try.prog 10 #[.agg #[.int .i64 n.kind, .string n.data, .slice h.A n.ptrs.length h.a, .int .i64 n.size, .int .i64 n.count, .slice h.B n.items.length h.b], .int .i64 (size : Int)] w (BuildQ (buildP 200 size n) w) := by
  obtain ⟨qA, qa, qB, qb⟩ := h
  have HOK := Lib.hid (fun (W : World) (hW : Below w.heap.size w W) => implNodeOk_a m n ⟨qA, qa, qB, qb⟩ W S (hn.below hW) ht)
  dsimp only at HOK ⊢
  have hb0 : Below w.heap.size w (((w.alloc (.cells #[.int .i64 n.kind, .string n.data, .slice qA n.ptrs.length qa, .int .i64 n.size, .int .i64 n.count, .slice qB n.items.length qb] nodeT)).alloc (.cells #[.slice none 0 0] 26)).alloc (.cells #[.bool false] 4)) := (((Below.refl _ w).alloc (Nat.le_refl _) _).alloc (by simp) _).alloc (by simp; omega) _
  have HB0 := Lib.hid hb0
  have r4 : (((w.alloc (.cells #[.int .i64 n.kind, .string n.data, .slice qA n.ptrs.length qa, .int .i64 n.size, .int .i64 n.count, .slice qB n.items.length qb] nodeT)).alloc (.cells #[.slice none 0 0] 26)).alloc (.cells #[.bool false] 4)).heap[w.heap.size + 1]? = some (.cells #[.slice none 0 0] 26 (0, 0)) := by
    have := heap_alloc_keep (heap_alloc_new (w.alloc (.cells #[.int .i64 n.kind, .string n.data, .slice qA n.ptrs.length qa, .int .i64 n.size, .int .i64 n.count, .slice qB n.items.length qb] nodeT)) (.cells #[.slice none 0 0] 26)) (.cells #[.bool false] 4)
    simpa using this
  have r5 : (((w.alloc (.cells #[.int .i64 n.kind, .string n.data, .slice qA n.ptrs.length qa, .int .i64 n.size, .int .i64 n.count, .slice qB n.items.length qb] nodeT)).alloc (.cells #[.slice none 0 0] 26)).alloc (.cells #[.bool false] 4)).heap[w.heap.size + 2]? = some (.cells #[.bool false] 4 (0, 0)) := by
    have := heap_alloc_new ((w.alloc (.cells #[.int .i64 n.kind, .string n.data, .slice qA n.ptrs.length qa, .int .i64 n.size, .int .i64 n.count, .slice qB n.items.length qb] nodeT)).alloc (.cells #[.slice none 0 0] 26)) (.cells #[.bool false] 4)
    simpa using this
  have hs0 : (((w.alloc (.cells #[.int .i64 n.kind, .string n.data, .slice qA n.ptrs.length qa, .int .i64 n.size, .int .i64 n.count, .slice qB n.items.length qb] nodeT)).alloc (.cells #[.slice none 0 0] 26)).alloc (.cells #[.bool false] 4)).heap.size = w.heap.size + 3 := by simp
  have R4 := Lib.hid r4
  have R5 := Lib.hid r5
  have HS0 := Lib.hid hs0
  have HN := Lib.hid hn.lt'
  have r2 : (((w.alloc (.cells #[.int .i64 n.kind, .string n.data, .slice qA n.ptrs.length qa, .int .i64 n.size, .int .i64 n.count, .slice qB n.items.length qb] nodeT)).alloc (.cells #[.slice none 0 0] 26)).alloc (.cells #[.bool false] 4)).heap[w.heap.size]? = some (.cells #[.int .i64 n.kind, .string n.data, .slice qA n.ptrs.length qa, .int .i64 n.size, .int .i64 n.count, .slice qB n.items.length qb] nodeT (0, 0)) := heap_alloc_keep (heap_alloc_keep (heap_alloc_new w _) _) _
  have R2 := Lib.hid r2
  clear hn hb0 r2 r4 r5 hs0
  rw [hok] at HOK
  have hd1 : decide ((size : Int) < 1) = false := decide_eq_false (by omega)
  have hd2 : decide ((200 : Int) < (size : Int)) = false := decide_eq_false (by omega)
  have hd3 : decide (200 < size) = false := decide_eq_false (by omega)
  have hd4 : decide (size < 1) = false := decide_eq_false (by omega)
  have hmf : ∀ (fn : Fn) (first cap : Array Value) (w : World), (Instr.makeFunc fn first cap).run Try.prog w = .ok (.func fn first cap) w := fun _ _ _ _ => rfl
  have HNO := Lib.hid (node_ok hok)
  clear hok
  go_enter_defers Try.func10, Try.ntmps10
  go_wp2_with fail
  refine (HOK.out _ HB0.out).mono ?_
  rintro e w1 ⟨rfl, hb1⟩
  have x2 := (hb1.block w.heap.size (by have := HS0.out; omega)).trans R2.out
  have x4 := (hb1.block (w.heap.size + 1) (by have := HS0.out; omega)).trans R4.out
  have x5 := (hb1.block (w.heap.size + 2) (by have := HS0.out; omega)).trans R5.out
  have hsz1 : w.heap.size + 3 ≤ w1.heap.size := by have := HS0.out; have := hb1.size; omega
  have HX2 := Lib.hid x2
  have HX4 := Lib.hid x4
  have HX5 := Lib.hid x5
  have HB1 := Lib.hid (HB0.out.trans (hb1.mono HB0.out.size))
  clear hb1 x2 x4 x5 R2 R4 R5 HB0 HS0
  go_wp2_with fail
  -- REGION
  have HE1 : Hid (nodeOk n = true) := Lib.hid (ok_node HNO.out.1 HNO.out.2)
  have hBu : Bun (w1.alloc (.cells #[.slice none 0 0, .int .i64 (size : Int), .int .i64 0] buT)).drew w.heap.size w1.heap.size size [] (fun k => w1.heap.size ≤ k) := by
    refine ⟨.slice none 0 0, fun _ => 0, fun _ => .slice none 0 0, ⟨heap_alloc_new w1 _, World.ownsRow_nil _ _ _ _, fun i hi => (by cases hi), fun i hi => (by cases hi), fun i j hi => (by cases hi), fun i j k hi => (by cases hi), by omega, fun i hi => (by cases hi)⟩, ?_⟩
    rintro k (rfl | e | ⟨i, hi, _⟩)
    · exact Nat.le_refl _
    · cases e
    · cases hi
  have HBU := Lib.hid hBu
  have hk2 : KP (fun k => w1.heap.size ≤ k) w1 (w1.alloc (.cells #[.slice none 0 0, .int .i64 (size : Int), .int .i64 0] buT)).drew := KP.of_below ((Below.refl _ _).alloc (Nat.le_refl _) _).drew
  have HK2 := Lib.hid hk2
  obtain ⟨n0, n1, n2, n3, n4, n5⟩ := cells6 (hk2.row HX2.out (by omega))
  have HND2 := Lib.hid (nd_base HN.out (HB1.out.trans (hk2.below (by omega) (fun k hk => by omega))))
  clear hBu hk2
  refine wp_region_panq (t4 := .pointer (some ⟨w.heap.size + 1, 0, none⟩)) (t5 := .pointer (some ⟨w.heap.size + 1 + 1, 0, none⟩)) (ds := [{ target := .fn (Fn.func 29) #[.pointer (some ⟨w.heap.size + 1, 0, none⟩), .pointer (some ⟨w.heap.size + 1 + 1, 0, none⟩)], args := #[] }]) (RR := fun c wp => buildP 200 size n = none ∧ c = [{ v := .iface tmT (.agg #[]), recovered := false }] ∧ KP (fun k => w1.heap.size ≤ k) w1 wp) ?_ ?_
  · rintro c a wp h4 h5 hds ⟨hnone, rfl, hkp⟩
    have HKP := Lib.hid hkp
    have y4 := hkp.row HX4.out (by omega)
    have y5 := hkp.row HX5.out (by omega)
    show Leaves Try.prog _ a.tmps _ a.defers (.panicking _) wp
    rw [hds]
    refine leaves_cons (f := 29) (args := #[.pointer (some ⟨w.heap.size + 1, 0, none⟩), .pointer (some ⟨w.heap.size + 1 + 1, 0, none⟩)]) (by simp) (by simp [go_sem]) ?_
    refine (catch_panicking (w.heap.size + 1) (w.heap.size + 1 + 1) tmT _ [] wp _ _ y4 y5 (by omega)).mono ?_
    rintro e u' w'' ⟨rfl, rfl, rfl⟩
    refine ⟨.tuple #[.slice none 0 0, .bool false], ?_, .inl ⟨hnone, rfl, ?_⟩⟩
    · have h4' := h4
      have h5' := h5
      rw [Array.getD_eq_getD_getElem?] at h4' h5'
      have c4 : wp.cell? ⟨w.heap.size + 1, 0, none⟩ = some (.slice none 0 0) := by rw [cell_of_row _ _ _ _ _ _ y4]; rfl
      have c5 : wp.cell? ⟨w.heap.size + 1 + 1, 0, none⟩ = some (.bool false) := by rw [cell_of_row _ _ _ _ _ _ y5]; rfl
      simp [results, Try.results10, go_sem, c4, c5, h4', h5']
    · exact ((HB1.out.trans (HKP.out.below (by omega) (fun k hk => by omega))).setCell (p := ⟨w.heap.size + 1, 0, none⟩) (by show w.heap.size ≤ w.heap.size + 1; omega) _).setCell (p := ⟨w.heap.size + 1 + 1, 0, none⟩) (by show w.heap.size ≤ w.heap.size + 1 + 1; omega) _
  refine wp_region_held_drew (S := (fun V => V.cell? ⟨w.heap.size, 0, none⟩ = some (.int .i64 n.kind) ∧ V.cell? ⟨w.heap.size, 1, none⟩ = some (.string n.data) ∧ V.cell? ⟨w.heap.size, 2, none⟩ = some (.slice qA n.ptrs.length qa) ∧ V.cell? ⟨w.heap.size, 3, none⟩ = some (.int .i64 n.size) ∧ V.cell? ⟨w.heap.size, 4, none⟩ = some (.int .i64 n.count) ∧ V.cell? ⟨w.heap.size, 5, none⟩ = some (.slice qB n.items.length qb))) (by kernel_rfl) ?_ (fun hH0 => ?_)
  · exact ⟨n0, n1, n2, n3, n4, n5⟩
  refine wpAnyH_take (i := 0) (v := ?_) rfl (by kernel_rfl) (by kernel_rfl) (by kernel_rfl) (fun _ _ _ h => panq_put (d := 22) (by decide) (by decide) h) (Or.inl ⟨by rfl, ?_⟩) (by assumption) ?_
  rotate_left
  · intro w hSw
    (try dsimp only at hSw)
    go_simp
    try with_reducible rfl
  try simp only [List.getElem_toArray, List.getElem_cons_succ, List.getElem_cons_zero, Act.put, List.setIfInBounds_toArray, List.set_cons_zero, List.set_cons_succ]
  refine wpAnyH_take (i := 1) (v := ?_) rfl (by kernel_rfl) (by kernel_rfl) (by kernel_rfl) (fun _ _ _ h => panq_put (d := 23) (by decide) (by decide) h) (Or.inl ⟨by rfl, ?_⟩) (by assumption) ?_
  rotate_left
  · intro w hSw
    (try dsimp only at hSw)
    go_simp
    try with_reducible rfl
  try simp only [List.getElem_toArray, List.getElem_cons_succ, List.getElem_cons_zero, Act.put, List.setIfInBounds_toArray, List.set_cons_zero, List.set_cons_succ]
  refine wpAnyH_take (i := 2) (v := ?_) rfl (by kernel_rfl) (by kernel_rfl) (by kernel_rfl) (fun _ _ _ h => panq_put (d := 24) (by decide) (by decide) h) (Or.inl ⟨by rfl, ?_⟩) (by assumption) ?_
  rotate_left
  · intro w hSw
    (try dsimp only at hSw)
    go_simp
    try with_reducible rfl
  try simp only [List.getElem_toArray, List.getElem_cons_succ, List.getElem_cons_zero, Act.put, List.setIfInBounds_toArray, List.set_cons_zero, List.set_cons_succ]
  refine wpAnyH_take (i := 3) (v := ?_) rfl (by kernel_rfl) (by kernel_rfl) (by kernel_rfl) (fun _ _ _ h => panq_put (d := 25) (by decide) (by decide) h) (Or.inl ⟨by rfl, ?_⟩) (by assumption) ?_
  rotate_left
  · intro w hSw
    (try dsimp only at hSw)
    go_simp
    try with_reducible rfl
  try simp only [List.getElem_toArray, List.getElem_cons_succ, List.getElem_cons_zero, Act.put, List.setIfInBounds_toArray, List.set_cons_zero, List.set_cons_succ]
  refine wpAnyH_ready (rs := [4]) (by kernel_rfl) (by simp) ?_
  refine AllReadyH.cons rfl (fun K hK => ?_) AllReadyH.nil
  go_simp
  go_at_call 32
  refine (open_more w.heap.size w1.heap.size size [] _ _ HBU.out (by decide)).mono ?_
  rintro e w3 ⟨rfl, hk3, hB3⟩
  have HB3 := Lib.hid (hB3.weak (Q := fun k => w1.heap.size ≤ k) (fun k h => by simp at h; omega))
  have HK3 := Lib.hid (HK2.out.trans hk3 (fun _ _ h => h))
  have m0 := kp_cell hk3 n0 (by simp; omega)
  have m1 := kp_cell hk3 n1 (by simp; omega)
  have m2 := kp_cell hk3 n2 (by simp; omega)
  have m3 := kp_cell hk3 n3 (by simp; omega)
  have m4 := kp_cell hk3 n4 (by simp; omega)
  have m5 := kp_cell hk3 n5 (by simp; omega)
  clear hk3 hB3
  go_wp2_with fail
  refine hK.out _ _ ?_ (fun hH1 => ?_)
  · exact ⟨m0, m1, m2, m3, m4, m5⟩
  clear hK K hH0
  try simp only [List.getElem_toArray, List.getElem_cons_succ, List.getElem_cons_zero, Act.put, List.setIfInBounds_toArray, List.set_cons_zero, List.set_cons_succ]
  refine wpAnyH_ready (rs := [5]) (by kernel_rfl) (by simp) ?_
  refine AllReadyH.cons rfl (fun K hK => ?_) AllReadyH.nil
  go_simp
  go_at_call 31
  refine (grow_more w.heap.size w1.heap.size size ([] ++ [[]]) _ _ HB3.out WDS1 0 1 (by decide) (by decide)).mono ?_
  rintro e w4 ⟨rfl, hk4, hB4⟩
  have HB4 := Lib.hid ((hB4.weak (Q := fun k => w1.heap.size ≤ k) (fun k h => by have := HK3.out.size; omega)).tight)
  have HK4 := Lib.hid (HK3.out.trans hk4 (fun _ _ h => h))
  have o0 := kp_cell hk4 m0 (by simp; omega)
  have o1 := kp_cell hk4 m1 (by simp; omega)
  have o2 := kp_cell hk4 m2 (by simp; omega)
  have o3 := kp_cell hk4 m3 (by simp; omega)
  have o4 := kp_cell hk4 m4 (by simp; omega)
  have o5 := kp_cell hk4 m5 (by simp; omega)
  clear hk4 hB4
  go_wp2_with fail
  refine hK.out _ _ ?_ (fun hH2 => ?_)
  · exact ⟨o0, o1, o2, o3, o4, o5⟩
  clear hK K hH1
  try simp only [List.getElem_toArray, List.getElem_cons_succ, List.getElem_cons_zero, Act.put, List.setIfInBounds_toArray, List.set_cons_zero, List.set_cons_succ]
  have HE2 : growB ([] ++ [[]]) 0 1 = [zer 1] := rfl
  rw [HE2] at HB4
  have HND4 := Lib.hid (nd_base HN.out (HB1.out.trans (HK4.out.below (by omega) (fun k hk => by omega))))
  have HCALL := Lib.hid (write_any size h200 8 w.heap.size w1.heap.size [zer 1] _ w4 0 0 m n ⟨qA, qa, qB, qb⟩ HB4.out (fun k hk => ⟨hk.2.1, hk.2.2⟩) SOK1 (by decide) (by decide) HND4.out HNO.out.1 ht (by have := HNO.out.2; omega))
  dsimp only at HCALL
  refine wpAnyH_ready (rs := [6]) (by kernel_rfl) (by simp) ?_
  refine AllReadyH.cons rfl (fun K hK => ?_) AllReadyH.nil
  go_simp
  go_at_call 30
  refine HCALL.out.mono ?_
  rintro e w5 (⟨hnone, rfl, hk5⟩ | ⟨s2, hsome, rfl, hk5, hB5⟩)
  · have HK5 := Lib.hid (HK4.out.trans hk5 (fun k hk h => h.1))
    clear hk5 hK
    go_wp2
    exact ⟨⟨rfl, rfl, rfl⟩, hnone, rfl, HK5.out⟩
  have HK5 := Lib.hid (HK4.out.trans hk5 (fun k hk h => h.1))
  have HB5 := Lib.hid hB5
  have HS5 := Lib.hid hsome
  have HSK := Lib.hid (wr_some 200 size 8 n [zer 1] 0 0 s2 HNO.out.1 SOK1 (by decide) (by decide) hsome).1
  have q0 := kp_cell hk5 o0 (by simp; omega)
  have q1 := kp_cell hk5 o1 (by simp; omega)
  have q2 := kp_cell hk5 o2 (by simp; omega)
  have q3 := kp_cell hk5 o3 (by simp; omega)
  have q4 := kp_cell hk5 o4 (by simp; omega)
  have q5 := kp_cell hk5 o5 (by simp; omega)
  refine hK.out _ _ ?_ (fun hH3 => ?_)
  · exact ⟨q0, q1, q2, q3, q4, q5⟩
  clear hK K hH2 hk5 hB5 hsome n0 n1 n2 n3 n4 n5 m0 m1 m2 m3 m4 m5 o0 o1 o2 o3 o4 o5 q0 q1 q2 q3 q4 q5
  refine wpAnyH_done (by kernel_rfl) ?_ _
  clear hH3
  refine panq_normal ?_
  have HX4' := Lib.hid (HK5.out.row HX4.out (by omega))
  have HX5' := Lib.hid (HK5.out.row HX5.out (by omega))
  go_wp2_with fail
  refine (texts_any w.heap.size w1.heap.size size s2 _ w5 HB5.out HSK.out).mono ?_
  rintro e w6 ⟨A, c, rfl, hown, hb6⟩
  have z4 := (hb6.block _ (row_lt HX4'.out)).trans HX4'.out
  have z5 := (hb6.block _ (row_lt HX5'.out)).trans HX5'.out
  have c4 : w6.cell? ⟨w.heap.size + 1, 0, none⟩ = some (.slice none 0 0) := by rw [cell_of_row _ _ _ _ _ _ z4]; rfl
  have c5 : w6.cell? ⟨w.heap.size + 2, 0, none⟩ = some (.bool false) := by rw [cell_of_row _ _ _ _ _ _ z5]; rfl
  have f4 := row_free z4 0
  have f5 := row_free z5 0
  have HOWN := Lib.hid hown
  have HB6 := Lib.hid ((HB1.out.trans (HK5.out.below (by omega) (fun k hk => by omega))).trans (hb6.mono (by have := HK5.out.size; omega)))
  have Z4 := Lib.hid z4
  have Z5 := Lib.hid z5
  clear z4 z5 hown hb6
  go_wp2_with fail
  refine leaves_cons (f := 29) (args := #[.pointer (some ⟨w.heap.size + 1, 0, none⟩), .pointer (some ⟨w.heap.size + 1 + 1, 0, none⟩)]) (by simp) (by simp [go_sem]) ?_
  refine (catch_idle ⟨w.heap.size + 1, 0, none⟩ ⟨w.heap.size + 1 + 1, 0, none⟩ _).mono ?_
  rintro e u' w'' ⟨rfl, rfl, rfl⟩
  refine ⟨.tuple #[.slice A s2.length c, .bool true], ?_, .inr ⟨s2, A, c, HS5.out, rfl, ?_, ?_⟩⟩
  · simp [results, Try.results10, go_sem, c4, c5]
  · refine own_keepB (own_low HOWN.out (by have := HK5.out.size; omega)) (fun k hk => ?_)
    obtain ⟨cu, hcu⟩ := own_T HOWN.out hk
    exact (Below.heap_setCell _ ⟨w.heap.size + 1 + 1, 0, none⟩ _ k (ne_T hcu Z5.out (by decide))).trans (Below.heap_setCell _ ⟨w.heap.size + 1, 0, none⟩ _ k (ne_T hcu Z4.out (by decide)))
  · exact (HB6.out.setCell (p := ⟨w.heap.size + 1, 0, none⟩) (by show w.heap.size ≤ w.heap.size + 1; omega) _).setCell (p := ⟨w.heap.size + 1 + 1, 0, none⟩) (by show w.heap.size ≤ w.heap.size + 1 + 1; omega) _
theorem implBuild_a (m : Nat) (n : Nd) (h : Hd) (w : World) (S : Nat → Prop) (size : Int) (hn : NdAt w S m n h) (ht : totN m n ≤ 2000000) :
    Calls Try.prog 10 #[.agg #[.int .i64 n.kind, .string n.data, .slice h.A n.ptrs.length h.a, .int .i64 n.size, .int .i64 n.count, .slice h.B n.items.length h.b], .int .i64 size] w (BuildQ (bldV n size) w) := by
  by_cases hh : nodeOk n = true ∧ 1 ≤ size ∧ size ≤ 200
  · obtain ⟨z, rfl⟩ := Int.eq_ofNat_of_zero_le (show 0 ≤ size by omega)
    have := implBuild_yes m n h w S z hn ht hh.1 (by omega) (by omega)
    have e : bldV n (z : Int) = buildP 200 z n := by unfold bldV; rw [if_pos hh]; rfl
    rw [e]
    exact this
  · exact implBuild_no m n h w S size hn ht hh
end Go.Proofs.Ytbhmklbdfmgmlaa

/- The program's BuildOne. -/
namespace Go.Proofs.Ytbhmklbdfmgmlaa
open Go.RowKit Go.Deep
def One1 (r : Option Segs) (w : World) (e : Ending) (w' : World) : Prop := (∃ s t, r = some (s :: t) ∧ e = .returned (.tuple #[strV s, .bool true]) ∧ Below w.heap.size w w') ∨ (r = none ∧ e = .returned (.tuple #[.string { data := #[] }, .bool false]) ∧ Below w.heap.size w w')
set_option maxHeartbeats 4000000 in
set_option maxRecDepth 100000 in
theorem implBuildOne_a (m : Nat) (n : Nd) (h : Hd) (w : World) (S : Nat → Prop) (hn : NdAt w S m n h) (ht : totN m n ≤ 2000000) :
    Calls Try.prog 17 #[.agg #[.int .i64 n.kind, .string n.data, .slice h.A n.ptrs.length h.a, .int .i64 n.size, .int .i64 n.count, .slice h.B n.items.length h.b]] w (One1 (bldV n 200) w) := by
  have hne : ∀ ss, bldV n 200 = some ss → ∃ s t, ss = s :: t := fun ss hss => by
    unfold bldV at hss
    split at hss
    · rename_i hh
      obtain ⟨s, hs, _⟩ := build_one (size := 200) hh.1 (by have := node_ok hh.1; unfold nodeWords; rw [if_pos hh.1]; omega)
      rw [show (200 : Int).toNat = 200 from rfl, hs] at hss
      injection hss with hss
      exact ⟨s, [], hss.symm⟩
    · cases hss
  have HNE := Lib.hid hne
  obtain ⟨qA, qa, qB, qb⟩ := h
  have hb0 := (Below.refl w.heap.size w).alloc (Nat.le_refl _) (.cells #[.int .i64 n.kind, .string n.data, .slice qA n.ptrs.length qa, .int .i64 n.size, .int .i64 n.count, .slice qB n.items.length qb] nodeT)
  have HB := Lib.hid (implBuild_a m n ⟨qA, qa, qB, qb⟩ _ S 200 (hn.below hb0) ht)
  dsimp only at HB ⊢
  have HB0 := Lib.hid hb0
  generalize bldV n 200 = r at *
  clear hn hb0 hne
  go_enter Try.func17, Try.ntmps17
  go_wp2_with fail
  refine HB.out.mono ?_
  rintro e w1 (⟨rfl, rfl, hb1⟩ | ⟨ss, A, c, rfl, rfl, ho, hb1⟩)
  · have HB1 := Lib.hid (HB0.out.trans (hb1.mono HB0.out.size))
    clear hb1
    go_wp2
    exact bodyPost_ret (v := .tuple #[.string { data := #[] }, .bool false]) (by simp [results, Try.results17, go_sem]) rfl (.inr ⟨rfl, rfl, HB1.out⟩)
  · have HB1 := Lib.hid (HB0.out.trans (hb1.mono HB0.out.size))
    obtain ⟨s, t, rfl⟩ := HNE.out ss rfl
    obtain ⟨g, cap, cur, hv, -⟩ := own_cases ho (by simp)
    injection hv with e1 e2 e3
    subst e1
    have hc := ho.cells (g := g) rfl 0 (strV s) (by simp)
    rw [add_zero0] at hc
    clear hb1 ho
    go_wp2
    exact bodyPost_ret (v := .tuple #[strV s, .bool true]) (by simp [results, Try.results17, go_sem]) rfl (.inl ⟨s, t, rfl, rfl, HB1.out⟩)
end Go.Proofs.Ytbhmklbdfmgmlaa

/- The specification's Build and BuildOne. -/
namespace Go.Proofs.Ytbhmklbdfmgmlaa
open Go.RowKit Go.Deep
/-- segments as texts. -/
def txS (ss : Segs) : List ByteArray := ss.map fun s => ⟨s.toArray⟩
theorem txS_length (ss : Segs) : (txS ss).length = ss.length := by simp [txS]
theorem frOk_txS {ss : Segs} (hk : SOk LS ss) : frOk (txS ss) = decide (totS ss ≤ 200) := by
  have h1 : ∀ s ∈ ss, s.length % 8 = 0 := fun s hs => by
    obtain ⟨i, hi, e⟩ := List.getElem_of_mem hs
    have := hk.wds i
    rw [sg_eq hi, e] at this
    exact this
  have h2 : ∀ (l : Segs), (∀ s ∈ l, s.length % 8 = 0) → (txS l).all (fun s => decide (s.size % 8 = 0)) = true ∧ tot (txS l) = 8 * totS l := by
    intro l
    induction l with
    | nil => intro _; exact ⟨rfl, rfl⟩
    | cons s t ih =>
      intro h
      obtain ⟨i1, i2⟩ := ih (fun x hx => h x (List.mem_cons_of_mem _ hx))
      have h0 := h s (List.mem_cons_self ..)
      have hs : (⟨s.toArray⟩ : ByteArray).size = s.length := by simp [ByteArray.size]
      have hw : s.length = 8 * wn s := by unfold wn; omega
      simp only [txS, tot, totS] at i1 i2 ⊢
      rw [List.map_cons, List.all_cons, List.map_cons, List.sum_cons, List.map_cons, List.sum_cons, i1, i2, hs]
      exact ⟨by simp [h0], by omega⟩
  obtain ⟨h3, h4⟩ := h2 ss h1
  unfold frOk
  rw [h3, h4, txS_length]
  have h5 := hk.one
  have h6 := hk.six
  by_cases h : totS ss ≤ 200
  · rw [decide_eq_true h, decide_eq_true (show 1 ≤ ss.length ∧ ss.length ≤ 6 from ⟨h5, h6⟩), decide_eq_true (show 8 * totS ss ≤ 1600 by omega)]; rfl
  · rw [decide_eq_false h, decide_eq_false (show ¬ 8 * totS ss ≤ 1600 by omega)]; simp
theorem tot_txS {ss : Segs} (hk : SOk LS ss) : tot (txS ss) ≤ 1099511627776 := by
  have : ∀ (l : Segs), tot (txS l) ≤ 8 * totS l + 8 * l.length := by
    intro l
    induction l with
    | nil => exact Nat.le_refl _
    | cons s t ih =>
      have hs : (⟨s.toArray⟩ : ByteArray).size = s.length := by simp [ByteArray.size]
      have hw : s.length ≤ 8 * wn s + 8 := by unfold wn; omega
      simp only [txS, tot, totS] at ih ⊢
      rw [List.map_cons, List.map_cons, List.sum_cons, List.map_cons, List.sum_cons, List.length_cons, hs]
      omega
  have h1 := this ss
  have h2 := hk.totS
  have h3 := hk.six
  unfold LS at h2
  omega
theorem strs_txS {w : World} {r : Nat} {ss : Segs} (hk : SOk LS ss) (hr : r < w.heap.size) (hc : ∀ i, i < ss.length → w.cell? ⟨r, i, none⟩ = some (strS (sgS ss i))) : Strs w (some ⟨r, 0, none⟩) (txS ss) := by
  refine ⟨fun s hs => ?_, .inr ⟨_, rfl, hr, fun i hi => ?_⟩⟩
  · obtain ⟨x, hx, rfl⟩ := List.mem_map.1 hs
    obtain ⟨i, hi, e⟩ := List.getElem_of_mem hx
    have h1 := sb_len hk i
    rw [sg_eq hi, e] at h1
    have hs : (⟨x.toArray⟩ : ByteArray).size = x.length := by simp [ByteArray.size]
    rw [hs]
    unfold maxLen
    omega
  · have hi' : i < ss.length := by rw [txS_length] at hi; exact hi
    rw [add_zero0, hc i hi', sg_eq hi']
    simp [txS]
theorem own_lowS {w : World} {B B' T sz n : Nat} {v : Value} {xs : List Value} (h : w.ownsRow B T sz v n xs) (hb : B' ≤ B) : w.ownsRow B' T sz v n xs := by
  refine ⟨h.1, ?_⟩
  rcases h.2 with e | ⟨g, cap, cur, e1, e2, e3⟩
  · exact .inl e
  · exact .inr ⟨g, cap, cur, e1, by omega, e3⟩
/-- what the specification's Build answers. -/
def BuildSQ (r : Option Segs) (w : World) (e : Ending) (w' : World) : Prop :=
  (r = none ∧ ∃ A c, e = .returned (.tuple #[.slice A 0 c, .bool false]) ∧ Below w.heap.size w w') ∨
  ∃ ss A c, r = some ss ∧ SOk LS ss ∧ e = .returned (.tuple #[.slice A ss.length c, .bool true]) ∧ w'.ownsRow w.heap.size stT 1 (.slice A ss.length c) ss.length (ss.map strS) ∧ Below w.heap.size w w'
set_option maxHeartbeats 4000000 in
set_option maxRecDepth 100000 in
theorem l5Build_yes (m : Nat) (n : Nd) (h : Hd) (w : World) (S : Nat → Prop) (z : Nat) (hn : NdAt w S m n h) (ht : totN m n ≤ 2000000) (hok : nodeOk n = true) (h1 : 1 ≤ z) (h2 : z ≤ 200) :
    Calls Try.prog 26 #[.agg #[.int .i64 n.kind, .string n.data, .slice h.A n.ptrs.length h.a, .int .i64 n.size, .int .i64 n.count, .slice h.B n.items.length h.b], .int .i64 (z : Int)] w (BuildSQ (buildP 200 z n) w) := by
  obtain ⟨qA, qa, qB, qb⟩ := h
  dsimp only
  obtain ⟨ho8, hw8⟩ := node_ok hok
  have hlim := build_lim (size := z) ho8 LS (by decide)
  have HLIM := Lib.hid hlim
  have hk0 := SOKL LS (by decide)
  have hbW : Below w.heap.size w (((w.alloc (.cells #[.int .i64 n.kind, .string n.data, .slice qA n.ptrs.length qa, .int .i64 n.size, .int .i64 n.count, .slice qB n.items.length qb] nodeT)).alloc (.cells #[strS (zer 1)] stT)).alloc (.cells #[.slice (some ⟨w.heap.size + 1, 0, none⟩) 1 1, .int .i64 (z : Int), .bool false] wrT)) := (((Below.refl _ w).alloc (Nat.le_refl _) _).alloc (by simp) _).alloc (by simp; omega) _
  have r0 : ((((w.alloc (.cells #[.int .i64 n.kind, .string n.data, .slice qA n.ptrs.length qa, .int .i64 n.size, .int .i64 n.count, .slice qB n.items.length qb] nodeT)).alloc (.cells #[strS (zer 1)] stT)).alloc (.cells #[.slice (some ⟨w.heap.size + 1, 0, none⟩) 1 1, .int .i64 (z : Int), .bool false] wrT))).heap[w.heap.size]? = some (.cells #[.int .i64 n.kind, .string n.data, .slice qA n.ptrs.length qa, .int .i64 n.size, .int .i64 n.count, .slice qB n.items.length qb] nodeT (0, 0)) := heap_alloc_keep (heap_alloc_keep (heap_alloc_new w _) _) _
  have r1 : ((((w.alloc (.cells #[.int .i64 n.kind, .string n.data, .slice qA n.ptrs.length qa, .int .i64 n.size, .int .i64 n.count, .slice qB n.items.length qb] nodeT)).alloc (.cells #[strS (zer 1)] stT)).alloc (.cells #[.slice (some ⟨w.heap.size + 1, 0, none⟩) 1 1, .int .i64 (z : Int), .bool false] wrT))).heap[w.heap.size + 1]? = some (.cells #[strS (zer 1)] stT (0, 0)) := by
    have := heap_alloc_keep (heap_alloc_new (w.alloc (.cells #[.int .i64 n.kind, .string n.data, .slice qA n.ptrs.length qa, .int .i64 n.size, .int .i64 n.count, .slice qB n.items.length qb] nodeT)) (.cells #[strS (zer 1)] stT)) (.cells #[.slice (some ⟨w.heap.size + 1, 0, none⟩) 1 1, .int .i64 (z : Int), .bool false] wrT)
    simpa using this
  have r2 : ((((w.alloc (.cells #[.int .i64 n.kind, .string n.data, .slice qA n.ptrs.length qa, .int .i64 n.size, .int .i64 n.count, .slice qB n.items.length qb] nodeT)).alloc (.cells #[strS (zer 1)] stT)).alloc (.cells #[.slice (some ⟨w.heap.size + 1, 0, none⟩) 1 1, .int .i64 (z : Int), .bool false] wrT))).heap[w.heap.size + 2]? = some (.cells #[.slice (some ⟨w.heap.size + 1, 0, none⟩) 1 1, .int .i64 (z : Int), .bool false] wrT (0, 0)) := by
    have := heap_alloc_new ((w.alloc (.cells #[.int .i64 n.kind, .string n.data, .slice qA n.ptrs.length qa, .int .i64 n.size, .int .i64 n.count, .slice qB n.items.length qb] nodeT)).alloc (.cells #[strS (zer 1)] stT)) (.cells #[.slice (some ⟨w.heap.size + 1, 0, none⟩) 1 1, .int .i64 (z : Int), .bool false] wrT)
    simpa using this
  have hsb : Sb (((w.alloc (.cells #[.int .i64 n.kind, .string n.data, .slice qA n.ptrs.length qa, .int .i64 n.size, .int .i64 n.count, .slice qB n.items.length qb] nodeT)).alloc (.cells #[strS (zer 1)] stT)).alloc (.cells #[.slice (some ⟨w.heap.size + 1, 0, none⟩) 1 1, .int .i64 (z : Int), .bool false] wrT)) w.heap.size (w.heap.size + 2) z [zer 1] false (fun k => k = w.heap.size + 1 ∨ k = w.heap.size + 2) :=
    ⟨_, r2, ⟨by decide, .inr ⟨w.heap.size + 1, 1, #[strS (zer 1)], rfl, by omega, r1, Nat.le_refl _, by decide, rfl, rfl⟩⟩, by omega, .inr rfl, fun k hk => .inl (Option.some.inj hk).symm⟩
  have HNODE := Lib.hid (swrite_any z h2 8 w.heap.size (w.heap.size + 2) [zer 1] _ (((w.alloc (.cells #[.int .i64 n.kind, .string n.data, .slice qA n.ptrs.length qa, .int .i64 n.size, .int .i64 n.count, .slice qB n.items.length qb] nodeT)).alloc (.cells #[strS (zer 1)] stT)).alloc (.cells #[.slice (some ⟨w.heap.size + 1, 0, none⟩) 1 1, .int .i64 (z : Int), .bool false] wrT)) 0 0 m n ⟨qA, qa, qB, qb⟩ hsb (fun k hk => by
    have : ((((w.alloc (.cells #[.int .i64 n.kind, .string n.data, .slice qA n.ptrs.length qa, .int .i64 n.size, .int .i64 n.count, .slice qB n.items.length qb] nodeT)).alloc (.cells #[strS (zer 1)] stT)).alloc (.cells #[.slice (some ⟨w.heap.size + 1, 0, none⟩) 1 1, .int .i64 (z : Int), .bool false] wrT))).heap.size = w.heap.size + 3 := by simp
    rw [this]
    omega) hk0 (by decide) (by decide) (nd_baseS hn.lt' hbW) ho8 ht (by omega) (by rw [show totS [zer 1] = 1 by decide]; unfold LS; omega))
  dsimp only at HNODE
  have HM := Lib.hid (fun W => l1Many_any ⟨#[0]⟩ 8 W (by omega) (by omega) (by decide) (by decide))
  have hmz : (⟨(repL (⟨#[0]⟩ : ByteArray).data.toList (8 : Int).toNat).toArray⟩ : ByteArray) = ⟨(zer 1).toArray⟩ := by decide +kernel
  rw [hmz] at HM
  have HBW := Lib.hid hbW
  have HSOK : Hid (∀ s1, wrP LS z 8 n [zer 1] 0 0 = some s1 → SOk LS s1) := Lib.hid (fun s1 hs => (wr_some LS z 8 n [zer 1] 0 0 s1 ho8 hk0 (by decide) (by decide) hs).1)
  have HBP : Hid (buildP LS z n = wrP LS z 8 n [zer 1] 0 0) := Lib.hid rfl
  rw [HBP.out] at HLIM
  generalize wrP LS z 8 n [zer 1] 0 0 = rr at *
  clear hn hok ho8 hlim hk0 hbW r0 r1 r2 hsb hmz HBP
  go_enter Try.func26, Try.ntmps26
  go_wp2_with fail
  refine (HM.out _).mono ?_
  rintro e w9 ⟨rfl, rfl⟩
  go_wp2_with fail
  refine HNODE.out.mono ?_
  rintro e w1 ⟨rfl, hk1, hor⟩
  have HK1 := Lib.hid (HBW.out.trans (hk1.below HBW.out.size (fun k hk => by rcases hk with h | h <;> omega)))
  rcases hor with ⟨hnone, s1, hs1⟩ | ⟨s1, hsome, hs1⟩
  · have HR : Hid (buildP 200 z n = none) := Lib.hid (by rw [HLIM.out, hnone]; rfl)
    obtain ⟨v, hb, -⟩ := hs1
    obtain ⟨c0, c1, c2⟩ := cells3 hb
    clear hb hk1
    go_wp2
    exact bodyPost_ret (v := .tuple #[.slice (some ⟨w1.heap.size, 0, none⟩) 0 0, .bool false]) (by simp [results, Try.results26, go_sem]) rfl (.inl ⟨HR.out, _, _, rfl, HK1.out.alloc HK1.out.size _⟩)
  · have hks := HSOK.out s1 hsome
    obtain ⟨r, cap, hb, ho, hlb, hPb, hPr, hc⟩ := hs1.open2 hks.one
    obtain ⟨c0, c1, c2⟩ := cells3 hb
    have HO := Lib.hid ho
    have HKS := Lib.hid hks
    have hrl : r < w1.heap.size := (ho.lt r rfl).2
    have HFR := Lib.hid (specFrameOk_any (some ⟨r, 0, none⟩) cap (txS s1) w1 (strs_txS hks hrl (fun i hi => (hc i hi).1)) (by rw [txS_length]; have := hks.six; omega) (tot_txS hks))
    rw [txS_length, frOk_txS hks] at HFR
    clear hb ho hlb hPb hPr hc hs1 hks hrl hk1
    by_cases hle : totS s1 ≤ 200
    · have HR : Hid (buildP 200 z n = some s1) := Lib.hid (by rw [HLIM.out, hsome, Option.bind_some, if_pos hle])
      rw [decide_eq_true hle] at HFR
      clear hsome hle
      go_wp2_with fail
      refine HFR.out.mono ?_
      rintro e w2 ⟨rfl, rfl⟩
      go_wp2
      exact bodyPost_ret (v := .tuple #[.slice (some ⟨r, 0, none⟩) s1.length cap, .bool true]) (by simp [results, Try.results26, go_sem]) rfl (.inr ⟨s1, _, _, HR.out, HKS.out, rfl, HO.out, HK1.out⟩)
    · have HR : Hid (buildP 200 z n = none) := Lib.hid (by rw [HLIM.out, hsome, Option.bind_some, if_neg hle])
      rw [decide_eq_false hle] at HFR
      clear hsome hle
      go_wp2_with fail
      refine HFR.out.mono ?_
      rintro e w2 ⟨rfl, rfl⟩
      go_wp2
      exact bodyPost_ret (v := .tuple #[.slice (some ⟨w1.heap.size, 0, none⟩) 0 0, .bool false]) (by simp [results, Try.results26, go_sem]) rfl (.inl ⟨HR.out, _, _, rfl, HK1.out.alloc HK1.out.size _⟩)
set_option maxHeartbeats 4000000 in
set_option maxRecDepth 100000 in
theorem specBuild_a (m : Nat) (n : Nd) (h : Hd) (w : World) (S : Nat → Prop) (size : Int) (hn : NdAt w S m n h) (ht : totN m n ≤ 2000000) :
    Calls Try.prog 8 #[.agg #[.int .i64 n.kind, .string n.data, .slice h.A n.ptrs.length h.a, .int .i64 n.size, .int .i64 n.count, .slice h.B n.items.length h.b], .int .i64 size] w (BuildSQ (bldV n size) w) := by
  obtain ⟨qA, qa, qB, qb⟩ := h
  have hb0 := (Below.refl w.heap.size w).alloc (Nat.le_refl _) (.cells #[.int .i64 n.kind, .string n.data, .slice qA n.ptrs.length qa, .int .i64 n.size, .int .i64 n.count, .slice qB n.items.length qb] nodeT)
  have HB0 := Lib.hid hb0
  have R0 := Lib.hid (heap_alloc_new w (.cells #[.int .i64 n.kind, .string n.data, .slice qA n.ptrs.length qa, .int .i64 n.size, .int .i64 n.count, .slice qB n.items.length qb] nodeT))
  have HOK := Lib.hid (fun (W : World) (hW : Below w.heap.size w W) => specNodeOk_a m n ⟨qA, qa, qB, qb⟩ W S (hn.below hW) ht)
  have HLB := Lib.hid (fun (hok : nodeOk n = true) (z : Nat) (h1 : 1 ≤ z) (h2 : z ≤ 200) (W : World) (hW : Below w.heap.size w W) => l5Build_yes m n ⟨qA, qa, qB, qb⟩ W S z (hn.below hW) ht hok h1 h2)
  dsimp only at HOK HLB ⊢
  by_cases hok : nodeOk n = true
  · by_cases hin : 1 ≤ size ∧ size ≤ 200
    · obtain ⟨z, rfl⟩ := Int.eq_ofNat_of_zero_le (show 0 ≤ size by omega)
      have HL2 := Lib.hid (HLB.out hok z (by omega) (by omega))
      have HV : Hid (bldV n (z : Int) = buildP 200 z n) := Lib.hid (by unfold bldV; rw [if_pos ⟨hok, hin⟩]; rfl)
      rw [hok] at HOK
      have HL1 := Lib.hid (fun W => l1In_any (z : Int) 1 200 W)
      rw [show inB (z : Int) 1 200 = true by unfold inB; simp; omega] at HL1
      have HIN := Lib.hid hin
      clear HLB hn hb0 hok
      go_enter Try.func8, Try.ntmps8
      go_wp2_with fail
      refine (HOK.out _ HB0.out).mono ?_
      rintro e w1 ⟨rfl, hb1⟩
      have HB1 := Lib.hid (HB0.out.trans (hb1.mono HB0.out.size))
      obtain ⟨n0, n1, n2, n3, n4, n5⟩ := cells6 ((hb1.block _ (row_lt R0.out)).trans R0.out)
      clear hb1
      go_wp2_with fail
      go_at_call 25
      refine (HL1.out _).mono ?_
      rintro e w2 ⟨rfl, rfl⟩
      go_wp2_with fail
      refine (HL2.out _ HB1.out).mono ?_
      rintro e w3 (⟨hnone, A, c, rfl, hb3⟩ | ⟨ss, A, c, hsome, hks, rfl, ho, hb3⟩)
      · have HB3 := Lib.hid (HB1.out.trans (hb3.mono HB1.out.size))
        have HN3 := Lib.hid hnone
        clear hb3 hnone
        go_wp2
        exact bodyPost_ret (v := .tuple #[.slice A 0 c, .bool false]) (by simp [results, Try.results8, go_sem]) rfl (.inl ⟨by rw [HV.out]; exact HN3.out, A, c, rfl, HB3.out⟩)
      · have HB3 := Lib.hid (HB1.out.trans (hb3.mono HB1.out.size))
        have HN3 := Lib.hid hsome
        have HKS := Lib.hid hks
        have HO3 := Lib.hid (own_lowS ho HB1.out.size)
        clear hb3 hsome hks ho
        go_wp2
        exact bodyPost_ret (v := .tuple #[.slice A ss.length c, .bool true]) (by simp [results, Try.results8, go_sem]) rfl (.inr ⟨ss, A, c, by rw [HV.out]; exact HN3.out, HKS.out, rfl, HO3.out, HB3.out⟩)
    · have HV : Hid (bldV n size = none) := Lib.hid (by unfold bldV; rw [if_neg (fun h => hin h.2)])
      have HL1 := Lib.hid (fun W => l1In_any size 1 200 W)
      rw [show inB size 1 200 = false by unfold inB; simp; omega] at HL1
      rw [hok] at HOK
      have HIN := Lib.hid hin
      clear HLB hn hb0 hok hin
      go_enter Try.func8, Try.ntmps8
      go_wp2_with fail
      refine (HOK.out _ HB0.out).mono ?_
      rintro e w1 ⟨rfl, hb1⟩
      have HB1 := Lib.hid (HB0.out.trans (hb1.mono HB0.out.size))
      clear hb1
      go_wp2_with fail
      go_at_call 25
      refine (HL1.out _).mono ?_
      rintro e w2 ⟨rfl, rfl⟩
      go_wp2
      exact bodyPost_ret (v := .tuple #[.slice (some ⟨w1.heap.size, 0, none⟩) 0 0, .bool false]) (by simp [results, Try.results8, go_sem]) rfl (.inl ⟨HV.out, _, _, rfl, HB1.out.alloc HB1.out.size _⟩)
  · have HV : Hid (bldV n size = none) := Lib.hid (by unfold bldV; rw [if_neg (fun h => hok h.1)])
    rw [show nodeOk n = false by simpa using hok] at HOK
    clear HLB hn hb0 hok
    go_enter Try.func8, Try.ntmps8
    go_wp2_with fail
    refine (HOK.out _ HB0.out).mono ?_
    rintro e w1 ⟨rfl, hb1⟩
    have HB1 := Lib.hid (HB0.out.trans (hb1.mono HB0.out.size))
    clear hb1
    go_wp2
    exact bodyPost_ret (v := .tuple #[.slice (some ⟨w1.heap.size, 0, none⟩) 0 0, .bool false]) (by simp [results, Try.results8, go_sem]) rfl (.inl ⟨HV.out, _, _, rfl, HB1.out.alloc HB1.out.size _⟩)
end Go.Proofs.Ytbhmklbdfmgmlaa

/- The laws' helper qnTexts, at equal lists. -/
namespace Go.Proofs.Ytbhmklbdfmgmlaa
open Go.RowKit
set_option maxHeartbeats 400000 in
theorem qnTexts_same (A B : Option Addr) (c d : Nat) (ss : List ByteArray) (w : World) (h : Strs w A ss) (k : Strs w B ss) (hn : ss.length ≤ 1048576) :
    Calls Try.prog 23 #[.slice A ss.length c, .slice B ss.length d] w fun e w' => e = .returned (.bool true) ∧ Below w.heap.size w w' := by
  have H := Lib.hid h
  have K := Lib.hid k
  clear h k
  go_enter Try.func23, Try.ntmps23
  go_wp2
  go_loopw [5] (fun i wr => ∃ k : Nat, k ≤ ss.length ∧ i = .int .i64 k ∧ Hid (Below w.heap.size w wr)) (fun i _ => ss.length - (intOf i).toNat)
  case atStart => exact ⟨0, by omega, rfl, Below.refl _ _⟩
  case round =>
    obtain ⟨k, hk, rfl, HB⟩ := hrel
    by_cases hk1 : k < ss.length
    · obtain ⟨a, rfl, _, hc⟩ := (H.out.below HB.out).2.resolve_left (by intro h; rw [h] at hk1; simp at hk1)
      obtain ⟨b, rfl, _, hd⟩ := (K.out.below HB.out).2.resolve_left (by intro h; rw [h] at hk1; simp at hk1)
      have hck := hc k hk1
      have hdk := hd k hk1
      clear hc hd
      have i0 : (0 : Int) ≤ k := by omega
      have i1 : (k : Int) < ss.length := by omega
      go_wp2
      go_quiet (fail)
      go_wp2
      go_roundw
      case rel => exact ⟨k + 1, by omega, by go_num, below_drawn HB.out _⟩
      case measure => simp [intOf]; omega
    · go_wp2
      go_ret
      exact ⟨rfl, HB.out⟩
end Go.Proofs.Ytbhmklbdfmgmlaa
