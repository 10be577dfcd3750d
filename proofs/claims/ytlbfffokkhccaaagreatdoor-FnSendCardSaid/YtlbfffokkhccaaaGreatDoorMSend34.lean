/- Texts of the proof of the law FnSend, side by side: part 34. -/
import Derived.Defers
import Derived.Recover
import Derived.Laws.Pointers
import Derived.Test.YtlbfffokkhccaaaGreatDoorMSend33
set_option maxHeartbeats 8000000
set_option maxRecDepth 100000
namespace Go.Proofs.YtlbfffokkhccaaaGreatDoor
open Go.RowKit Go.Deep
theorem catch_panicking (p q : Nat) (u : TypeId) (pv : Value) (older : List PanicEntry) (w : World) (x y : Value) (hp : w.heap[p]? = some (.cells #[x] 28 (0, 0))) (hq : w.heap[q]? = some (.cells #[y] 4 (0, 0))) (hpq : p ≠ q) :
 CallsD Tryz.prog 33 #[.pointer (some ⟨p, 0, none⟩), .pointer (some ⟨q, 0, none⟩)] (.panicking ({ v := .iface u pv, recovered := false } :: older)) w fun e u' w' =>
  e = .returned (.tuple #[]) ∧ u' = .panicking ({ v := .iface u pv, recovered := true } :: older) ∧ w' = (w.setCell ⟨p, 0, none⟩ (.slice none 0 0)).setCell ⟨q, 0, none⟩ (.bool false) := by
 have c0 : w.cell? ⟨p, 0, none⟩ = some x := by rw [cell_of_row _ _ _ _ _ _ hp]; rfl
 have c1 : w.cell? ⟨q, 0, none⟩ = some y := by rw [cell_of_row _ _ _ _ _ _ hq]; rfl
 have f0 := row_free hp 0
 have f1 := row_free hq 0
 have hpq' : q ≠ p := fun e => hpq e.symm
 refine callsD_of_wpS Tryz.func33 rfl fun c₀ cs hu => ?_
 apply wpS_seq
 apply wpS_region
 simp [wpOpsS, go_sem, recoverD, hu, Tryz.ntmps33, Exit.thenS]
 refine wpS_cond (t := true) (by simp [Act.eval, Array.replicate]) ?_
 simp only [if_true]
 apply wpS_region
 simp [wpOpsS, go_sem, c0, c1, f0, f1, hpq, hpq', bodyPostS, results, Tryz.results33]
theorem catch_idle (p q : Addr) (w : World) :
 CallsD Tryz.prog 33 #[.pointer (some p), .pointer (some q)] .returning w fun e u' w' => e = .returned (.tuple #[]) ∧ u' = .returning ∧ w' = w := by
 refine callsD_of_wpS Tryz.func33 rfl fun c₀ cs hu => ?_
 apply wpS_seq
 apply wpS_region
 simp [wpOpsS, go_sem, recoverD, hu, Tryz.ntmps33, Exit.thenS]
 refine wpS_cond (t := false) (by simp [Act.eval, Array.replicate]) ?_
 simp only [Bool.false_eq_true, if_false]
 refine wpS_of_wp (wp_skip ?_)
 cases c₀
 simp_all [bodyPostS, results, Tryz.results33]
def bldV (n : Nd) (size : Int) : Option Segs := if nodeOk n = true ∧ 1 ≤ size ∧ size ≤ 200 then buildP 200 size.toNat n else none
def BuildQ (r : Option Segs) (w : World) (e : Ending) (w' : World) : Prop :=
 (r = none ∧ e = .returned (.tuple #[.slice none 0 0, .bool false]) ∧ Below w.heap.size w w') ∨
 ∃ ss A c, r = some ss ∧ e = .returned (.tuple #[.slice A ss.length c, .bool true]) ∧ w'.ownsRow w.heap.size 9 1 (.slice A ss.length c) ss.length (ss.map strV) ∧ Below w.heap.size w w'
theorem NdsAt.lt' {w : World} {S : Nat → Prop} : ∀ (m : Nat) (A : Option Addr) (l : List Nd), NdsAt w S m A l → NdsAt w (fun k => k < w.heap.size) m A l
 | 0, _, _, h => h
 | m + 1, A, l, ⟨hl, q, hq, hc, hr⟩ => by
   refine ⟨hl, q, hq, ?_, fun r h => ⟨(hr r h).1, NdsAt.lt' m _ _ (hr r h).2.1, NdsAt.lt' m _ _ (hr r h).2.2⟩⟩
   cases q with
   | nil => exact .inl rfl
   | cons r t =>
    rcases hc with h | ⟨x, hx, hs, hk⟩
    · cases h
    · refine .inr ⟨x, hx, ?_, hk⟩
      have := (hk 0 r rfl).lt
      rwa [addr_block] at this
theorem NdAt.lt' {w : World} {S : Nat → Prop} {m : Nat} {n : Nd} {h : Hd} (hn : NdAt w S m n h) : NdAt w (fun k => k < w.heap.size) m n h := ⟨hn.1, NdsAt.lt' _ _ _ hn.2.1, NdsAt.lt' _ _ _ hn.2.2⟩
theorem implBuild_no (m : Nat) (n : Nd) (h : Hd) (w : World) (S : Nat → Prop) (size : Int) (hn : NdAt w S m n h) (ht : totN m n ≤ 2000000) (hno : ¬ (nodeOk n = true ∧ 1 ≤ size ∧ size ≤ 200)) :
 Calls Tryz.prog 10 #[.agg #[.int .i64 n.kind, .string n.data, .slice h.A n.ptrs.length h.a, .int .i64 n.size, .int .i64 n.count, .slice h.B n.items.length h.b], .int .i64 size] w (BuildQ (bldV n size) w) := by
 have HE : Hid (bldV n size = none) := Lib.hid (by unfold bldV; rw [if_neg hno])
 obtain ⟨qA, qa, qB, qb⟩ := h
 have HOK := Lib.hid (fun (W : World) (hW : Below w.heap.size w W) => implNodeOk_a m n ⟨qA, qa, qB, qb⟩ W S (hn.below hW) ht)
 dsimp only at HOK ⊢
 have hb0 : Below w.heap.size w (((w.alloc (.cells #[.int .i64 n.kind, .string n.data, .slice qA n.ptrs.length qa, .int .i64 n.size, .int .i64 n.count, .slice qB n.items.length qb] nodeT)).alloc (.cells #[.slice none 0 0] 28)).alloc (.cells #[.bool false] 4)) := (((Below.refl _ w).alloc (Nat.le_refl _) _).alloc (by simp) _).alloc (by simp; omega) _
 have HB0 := Lib.hid hb0
 have r4 : (((w.alloc (.cells #[.int .i64 n.kind, .string n.data, .slice qA n.ptrs.length qa, .int .i64 n.size, .int .i64 n.count, .slice qB n.items.length qb] nodeT)).alloc (.cells #[.slice none 0 0] 28)).alloc (.cells #[.bool false] 4)).heap[w.heap.size + 1]? = some (.cells #[.slice none 0 0] 28 (0, 0)) := by
  have := heap_alloc_keep (heap_alloc_new (w.alloc (.cells #[.int .i64 n.kind, .string n.data, .slice qA n.ptrs.length qa, .int .i64 n.size, .int .i64 n.count, .slice qB n.items.length qb] nodeT)) (.cells #[.slice none 0 0] 28)) (.cells #[.bool false] 4)
  simpa using this
 have r5 : (((w.alloc (.cells #[.int .i64 n.kind, .string n.data, .slice qA n.ptrs.length qa, .int .i64 n.size, .int .i64 n.count, .slice qB n.items.length qb] nodeT)).alloc (.cells #[.slice none 0 0] 28)).alloc (.cells #[.bool false] 4)).heap[w.heap.size + 2]? = some (.cells #[.bool false] 4 (0, 0)) := by
  have := heap_alloc_new ((w.alloc (.cells #[.int .i64 n.kind, .string n.data, .slice qA n.ptrs.length qa, .int .i64 n.size, .int .i64 n.count, .slice qB n.items.length qb] nodeT)).alloc (.cells #[.slice none 0 0] 28)) (.cells #[.bool false] 4)
  simpa using this
 have hs0 : (((w.alloc (.cells #[.int .i64 n.kind, .string n.data, .slice qA n.ptrs.length qa, .int .i64 n.size, .int .i64 n.count, .slice qB n.items.length qb] nodeT)).alloc (.cells #[.slice none 0 0] 28)).alloc (.cells #[.bool false] 4)).heap.size = w.heap.size + 3 := by simp
 have R4 := Lib.hid r4
 have R5 := Lib.hid r5
 have HS0 := Lib.hid hs0
 clear hn hb0 r4 r5 hs0
 obtain ⟨B1, hB1⟩ : ∃ B1, nodeOk n = B1 := ⟨_, rfl⟩
 rw [hB1] at HOK hno
 clear hB1
 have hd1 : ∃ B2, decide (size < 1) = B2 := ⟨_, rfl⟩
 have hd2 : ∃ B3, decide (200 < size) = B3 := ⟨_, rfl⟩
 obtain ⟨B2, hd1⟩ := hd1
 obtain ⟨B3, hd2⟩ := hd2
 have hone : B1 = false ∨ B2 = true ∨ B3 = true := by
  cases B1
  · exact .inl rfl
  · right
    rw [← hd1, ← hd2]
    simp only [decide_eq_true_eq]
    simp only [true_and] at hno
    omega
 cases B1 <;> cases B2 <;> cases B3 <;> try (exfalso; (rcases hone with h | h | h <;> cases h); done)
 all_goals
  clear hone hno
  go_enter_defers Tryz.func10, Tryz.ntmps10
  go_wp2_with fail
  refine (HOK.out _ HB0.out).mono ?_
  rintro e w1 ⟨rfl, hb1⟩
  have x4 := (hb1.block (w.heap.size + 1) (by have := HS0.out; omega)).trans R4.out
  have x5 := (hb1.block (w.heap.size + 2) (by have := HS0.out; omega)).trans R5.out
  have c4 : w1.cell? ⟨w.heap.size + 1, 0, none⟩ = some (.slice none 0 0) := by rw [cell_of_row _ _ _ _ _ _ x4]; rfl
  have c5 : w1.cell? ⟨w.heap.size + 2, 0, none⟩ = some (.bool false) := by rw [cell_of_row _ _ _ _ _ _ x5]; rfl
  have f4 := row_free x4 0
  have f5 := row_free x5 0
  have HX4 := Lib.hid x4
  have HX5 := Lib.hid x5
  have HB1 := Lib.hid (HB0.out.trans (hb1.mono HB0.out.size))
  clear hb1 x4 x5
  go_wp2_with fail
  refine ⟨.tuple #[.slice none 0 0, .bool false], ?_, .inl ⟨HE.out, rfl, ?_⟩⟩
  · simp [results, Tryz.results10, go_sem, c4, c5]
  · exact (HB1.out.setCell (p := ⟨w.heap.size + 1, 0, none⟩) (by show w.heap.size ≤ w.heap.size + 1; omega) _).setCell (p := ⟨w.heap.size + 2, 0, none⟩) (by show w.heap.size ≤ w.heap.size + 2; omega) _
def PanQ (t4 t5 : Value) (ds : List Deferred) (RR : List PanicEntry → World → Prop) (Q : Exit → Act → World → Prop) : Exit → Act → World → Prop
 | .panic c, a, w => (a.tmps.getD 4 undef = t4 ∧ a.tmps.getD 5 undef = t5 ∧ a.defers = ds) ∧ RR c w
 | e, a, w => Q e a w
theorem WDS1 : WdS ([] ++ [[]]) := fun i => by
 match i with
 | 0 => rfl
 | i + 1 => rfl
theorem SOK1 : SOk 200 [zer 1] := ⟨fun i => by
 match i with
 | 0 => rfl
 | i + 1 => rfl, by decide, by decide, by decide⟩
theorem wp_region_panq {P : Program} {id : Nat} {ops : Array Oper} {b : Bool} {Q : Exit → Act → World → Prop} {a : Act} {w : World} {t4 t5 : Value} {ds : List Deferred} {RR : List PanicEntry → World → Prop}
 (h : ∀ c a w, a.tmps.getD 4 undef = t4 → a.tmps.getD 5 undef = t5 → a.defers = ds → RR c w → Q (.panic c) a w) (hr : (Code.region id ops b).wp P (PanQ t4 t5 ds RR Q) a w) : (Code.region id ops b).wp P Q a w :=
 Code.wp_mono (fun e a w hh => by
  cases e <;> first | exact hh | exact h _ _ _ hh.1.1 hh.1.2.1 hh.1.2.2 hh.2) hr
theorem panq_normal {t4 t5 : Value} {ds : List Deferred} {RR : List PanicEntry → World → Prop} {Q : Exit → Act → World → Prop} {a : Act} {w : World} (h : Q .normal a w) : PanQ t4 t5 ds RR Q .normal a w := h
theorem own_low {w : World} {B B' T sz n : Nat} {v : Value} {xs : List Value} (h : w.ownsRow B T sz v n xs) (hB : B' ≤ B) : w.ownsRow B' T sz v n xs := ⟨h.1, h.2.imp id (fun ⟨g, cap, cur, h1, h2, h3⟩ => ⟨g, cap, cur, h1, Nat.le_trans hB h2, h3⟩)⟩
theorem panq_put {t4 t5 : Value} {ds : List Deferred} {RR : List PanicEntry → World → Prop} {Q : Exit → Act → World → Prop} {c : List PanicEntry} {a : Act} {w : World} {d : Nat} {v : Value} (h4 : d ≠ 4) (h5 : d ≠ 5) (h : PanQ t4 t5 ds RR Q (.panic c) (a.put (some d) v) w) : PanQ t4 t5 ds RR Q (.panic c) a w := by
 obtain ⟨⟨g4, g5, g6⟩, hR⟩ := h
 refine ⟨⟨?_, ?_, g6⟩, hR⟩
 · rw [← g4]; simp [Act.put, Array.getD_eq_getD_getElem?, Array.getElem?_setIfInBounds, h4]
 · rw [← g5]; simp [Act.put, Array.getD_eq_getD_getElem?, Array.getElem?_setIfInBounds, h5]
theorem implBuild_yes (m : Nat) (n : Nd) (h : Hd) (w : World) (S : Nat → Prop) (size : Nat) (hn : NdAt w S m n h) (ht : totN m n ≤ 2000000) (hok : nodeOk n = true) (h1 : 1 ≤ size) (h200 : size ≤ 200) :
 Calls Tryz.prog 10 #[.agg #[.int .i64 n.kind, .string n.data, .slice h.A n.ptrs.length h.a, .int .i64 n.size, .int .i64 n.count, .slice h.B n.items.length h.b], .int .i64 (size : Int)] w (BuildQ (buildP 200 size n) w) := by
 obtain ⟨qA, qa, qB, qb⟩ := h
 have HOK := Lib.hid (fun (W : World) (hW : Below w.heap.size w W) => implNodeOk_a m n ⟨qA, qa, qB, qb⟩ W S (hn.below hW) ht)
 dsimp only at HOK ⊢
 have hb0 : Below w.heap.size w (((w.alloc (.cells #[.int .i64 n.kind, .string n.data, .slice qA n.ptrs.length qa, .int .i64 n.size, .int .i64 n.count, .slice qB n.items.length qb] nodeT)).alloc (.cells #[.slice none 0 0] 28)).alloc (.cells #[.bool false] 4)) := (((Below.refl _ w).alloc (Nat.le_refl _) _).alloc (by simp) _).alloc (by simp; omega) _
 have HB0 := Lib.hid hb0
 have r4 : (((w.alloc (.cells #[.int .i64 n.kind, .string n.data, .slice qA n.ptrs.length qa, .int .i64 n.size, .int .i64 n.count, .slice qB n.items.length qb] nodeT)).alloc (.cells #[.slice none 0 0] 28)).alloc (.cells #[.bool false] 4)).heap[w.heap.size + 1]? = some (.cells #[.slice none 0 0] 28 (0, 0)) := by
  have := heap_alloc_keep (heap_alloc_new (w.alloc (.cells #[.int .i64 n.kind, .string n.data, .slice qA n.ptrs.length qa, .int .i64 n.size, .int .i64 n.count, .slice qB n.items.length qb] nodeT)) (.cells #[.slice none 0 0] 28)) (.cells #[.bool false] 4)
  simpa using this
 have r5 : (((w.alloc (.cells #[.int .i64 n.kind, .string n.data, .slice qA n.ptrs.length qa, .int .i64 n.size, .int .i64 n.count, .slice qB n.items.length qb] nodeT)).alloc (.cells #[.slice none 0 0] 28)).alloc (.cells #[.bool false] 4)).heap[w.heap.size + 2]? = some (.cells #[.bool false] 4 (0, 0)) := by
  have := heap_alloc_new ((w.alloc (.cells #[.int .i64 n.kind, .string n.data, .slice qA n.ptrs.length qa, .int .i64 n.size, .int .i64 n.count, .slice qB n.items.length qb] nodeT)).alloc (.cells #[.slice none 0 0] 28)) (.cells #[.bool false] 4)
  simpa using this
 have hs0 : (((w.alloc (.cells #[.int .i64 n.kind, .string n.data, .slice qA n.ptrs.length qa, .int .i64 n.size, .int .i64 n.count, .slice qB n.items.length qb] nodeT)).alloc (.cells #[.slice none 0 0] 28)).alloc (.cells #[.bool false] 4)).heap.size = w.heap.size + 3 := by simp
 have R4 := Lib.hid r4
 have R5 := Lib.hid r5
 have HS0 := Lib.hid hs0
 have HN := Lib.hid hn.lt'
 have r2 : (((w.alloc (.cells #[.int .i64 n.kind, .string n.data, .slice qA n.ptrs.length qa, .int .i64 n.size, .int .i64 n.count, .slice qB n.items.length qb] nodeT)).alloc (.cells #[.slice none 0 0] 28)).alloc (.cells #[.bool false] 4)).heap[w.heap.size]? = some (.cells #[.int .i64 n.kind, .string n.data, .slice qA n.ptrs.length qa, .int .i64 n.size, .int .i64 n.count, .slice qB n.items.length qb] nodeT (0, 0)) := heap_alloc_keep (heap_alloc_keep (heap_alloc_new w _) _) _
 have R2 := Lib.hid r2
 clear hn hb0 r2 r4 r5 hs0
 rw [hok] at HOK
 have hd1 : decide ((size : Int) < 1) = false := decide_eq_false (by omega)
 have hd2 : decide ((200 : Int) < (size : Int)) = false := decide_eq_false (by omega)
 have hd3 : decide (200 < size) = false := decide_eq_false (by omega)
 have hd4 : decide (size < 1) = false := decide_eq_false (by omega)
 have hmf : ∀ (fn : Fn) (first cap : Array Value) (w : World), (Instr.makeFunc fn first cap).run Tryz.prog w = .ok (.func fn first cap) w := fun _ _ _ _ => rfl
 have HNO := Lib.hid (node_ok hok)
 clear hok
 go_enter_defers Tryz.func10, Tryz.ntmps10
 go_wp2_with fail
 refine (HOK.out _ HB0.out).mono ?_
 rintro e w1 ⟨rfl, hb1⟩
 have x2 := (hb1.block w.heap.size (by have := HS0.out; omega)).trans R2.out
 have x4 := (hb1.block (w.heap.size + 1) (by have := HS0.out; omega)).trans R4.out
 have x5 := (hb1.block (w.heap.size + 2) (by have := HS0.out; omega)).trans R5.out
 have hsz1 : w.heap.size + 3 ≤ w1.heap.size := by have := HS0.out; have := hb1.size; omega
 have HX2 := Lib.hid x2
 have HX4 := Lib.hid x4
 have HX5 := Lib.hid x5
 have HB1 := Lib.hid (HB0.out.trans (hb1.mono HB0.out.size))
 clear hb1 x2 x4 x5 R2 R4 R5 HB0 HS0
 go_wp2_with fail
 -- REGION
 have HE1 : Hid (nodeOk n = true) := Lib.hid (ok_node HNO.out.1 HNO.out.2)
 have hBu : Bun (w1.alloc (.cells #[.slice none 0 0, .int .i64 (size : Int), .int .i64 0] buT)).drew w.heap.size w1.heap.size size [] (fun k => w1.heap.size ≤ k) := by
  refine ⟨.slice none 0 0, fun _ => 0, fun _ => .slice none 0 0, ⟨heap_alloc_new w1 _, World.ownsRow_nil _ _ _ _, fun i hi => (by cases hi), fun i hi => (by cases hi), fun i j hi => (by cases hi), fun i j k hi => (by cases hi), by omega, fun i hi => (by cases hi)⟩, ?_⟩
  rintro k (rfl | e | ⟨i, hi, _⟩)
  · exact Nat.le_refl _
  · cases e
  · cases hi
 have HBU := Lib.hid hBu
 have hk2 : KP (fun k => w1.heap.size ≤ k) w1 (w1.alloc (.cells #[.slice none 0 0, .int .i64 (size : Int), .int .i64 0] buT)).drew := KP.of_below ((Below.refl _ _).alloc (Nat.le_refl _) _).drew
 have HK2 := Lib.hid hk2
 obtain ⟨n0, n1, n2, n3, n4, n5⟩ := cells6 (hk2.row HX2.out (by omega))
 have HND2 := Lib.hid (nd_base HN.out (HB1.out.trans (hk2.below (by omega) (fun k hk => by omega))))
 clear hBu hk2
 refine wp_region_panq (t4 := .pointer (some ⟨w.heap.size + 1, 0, none⟩)) (t5 := .pointer (some ⟨w.heap.size + 1 + 1, 0, none⟩)) (ds := [{ target := .fn (Fn.func 33) #[.pointer (some ⟨w.heap.size + 1, 0, none⟩), .pointer (some ⟨w.heap.size + 1 + 1, 0, none⟩)], args := #[] }]) (RR := fun c wp => buildP 200 size n = none ∧ c = [{ v := .iface tmT (.agg #[]), recovered := false }] ∧ KP (fun k => w1.heap.size ≤ k) w1 wp) ?_ ?_
 · rintro c a wp h4 h5 hds ⟨hnone, rfl, hkp⟩
   have HKP := Lib.hid hkp
   have y4 := hkp.row HX4.out (by omega)
   have y5 := hkp.row HX5.out (by omega)
   show Leaves Tryz.prog _ a.tmps _ a.defers (.panicking _) wp
   rw [hds]
   refine leaves_cons (f := 33) (args := #[.pointer (some ⟨w.heap.size + 1, 0, none⟩), .pointer (some ⟨w.heap.size + 1 + 1, 0, none⟩)]) (by simp) (by simp [go_sem]) ?_
   refine (catch_panicking (w.heap.size + 1) (w.heap.size + 1 + 1) tmT _ [] wp _ _ y4 y5 (by omega)).mono ?_
   rintro e u' w'' ⟨rfl, rfl, rfl⟩
   refine ⟨.tuple #[.slice none 0 0, .bool false], ?_, .inl ⟨hnone, rfl, ?_⟩⟩
   · have h4' := h4
     have h5' := h5
     rw [Array.getD_eq_getD_getElem?] at h4' h5'
     have c4 : wp.cell? ⟨w.heap.size + 1, 0, none⟩ = some (.slice none 0 0) := by rw [cell_of_row _ _ _ _ _ _ y4]; rfl
     have c5 : wp.cell? ⟨w.heap.size + 1 + 1, 0, none⟩ = some (.bool false) := by rw [cell_of_row _ _ _ _ _ _ y5]; rfl
     simp [results, Tryz.results10, go_sem, c4, c5, h4', h5']
   · exact ((HB1.out.trans (HKP.out.below (by omega) (fun k hk => by omega))).setCell (p := ⟨w.heap.size + 1, 0, none⟩) (by show w.heap.size ≤ w.heap.size + 1; omega) _).setCell (p := ⟨w.heap.size + 1 + 1, 0, none⟩) (by show w.heap.size ≤ w.heap.size + 1 + 1; omega) _
 refine wp_region_held_drew (S := (fun V => V.cell? ⟨w.heap.size, 0, none⟩ = some (.int .i64 n.kind) ∧ V.cell? ⟨w.heap.size, 1, none⟩ = some (.string n.data) ∧ V.cell? ⟨w.heap.size, 2, none⟩ = some (.slice qA n.ptrs.length qa) ∧ V.cell? ⟨w.heap.size, 3, none⟩ = some (.int .i64 n.size) ∧ V.cell? ⟨w.heap.size, 4, none⟩ = some (.int .i64 n.count) ∧ V.cell? ⟨w.heap.size, 5, none⟩ = some (.slice qB n.items.length qb))) (by kernel_rfl) ?_ (fun hH0 => ?_)
 · exact ⟨n0, n1, n2, n3, n4, n5⟩
 refine wpAnyH_take (i := 0) (v := ?_) rfl (by kernel_rfl) (by kernel_rfl) (by kernel_rfl) (fun _ _ _ h => panq_put (d := 22) (by decide) (by decide) h) (Or.inl ⟨by rfl, ?_⟩) (by assumption) ?_
 rotate_left
 · intro w hSw
   (try dsimp only at hSw)
   go_simp
   try with_reducible rfl
 try simp only [List.getElem_toArray, List.getElem_cons_succ, List.getElem_cons_zero, Act.put, List.setIfInBounds_toArray, List.set_cons_zero, List.set_cons_succ]
 refine wpAnyH_take (i := 1) (v := ?_) rfl (by kernel_rfl) (by kernel_rfl) (by kernel_rfl) (fun _ _ _ h => panq_put (d := 23) (by decide) (by decide) h) (Or.inl ⟨by rfl, ?_⟩) (by assumption) ?_
 rotate_left
 · intro w hSw
   (try dsimp only at hSw)
   go_simp
   try with_reducible rfl
 try simp only [List.getElem_toArray, List.getElem_cons_succ, List.getElem_cons_zero, Act.put, List.setIfInBounds_toArray, List.set_cons_zero, List.set_cons_succ]
 refine wpAnyH_take (i := 2) (v := ?_) rfl (by kernel_rfl) (by kernel_rfl) (by kernel_rfl) (fun _ _ _ h => panq_put (d := 24) (by decide) (by decide) h) (Or.inl ⟨by rfl, ?_⟩) (by assumption) ?_
 rotate_left
 · intro w hSw
   (try dsimp only at hSw)
   go_simp
   try with_reducible rfl
 try simp only [List.getElem_toArray, List.getElem_cons_succ, List.getElem_cons_zero, Act.put, List.setIfInBounds_toArray, List.set_cons_zero, List.set_cons_succ]
 refine wpAnyH_take (i := 3) (v := ?_) rfl (by kernel_rfl) (by kernel_rfl) (by kernel_rfl) (fun _ _ _ h => panq_put (d := 25) (by decide) (by decide) h) (Or.inl ⟨by rfl, ?_⟩) (by assumption) ?_
 rotate_left
 · intro w hSw
   (try dsimp only at hSw)
   go_simp
   try with_reducible rfl
 try simp only [List.getElem_toArray, List.getElem_cons_succ, List.getElem_cons_zero, Act.put, List.setIfInBounds_toArray, List.set_cons_zero, List.set_cons_succ]
 refine wpAnyH_ready (rs := [4]) (by kernel_rfl) (by simp) ?_
 refine AllReadyH.cons rfl (fun K hK => ?_) AllReadyH.nil
 go_simp
 go_at_call 36
 refine (open_more w.heap.size w1.heap.size size [] _ _ HBU.out (by decide)).mono ?_
 rintro e w3 ⟨rfl, hk3, hB3⟩
 have HB3 := Lib.hid (hB3.weak (Q := fun k => w1.heap.size ≤ k) (fun k h => by simp at h; omega))
 have HK3 := Lib.hid (HK2.out.trans hk3 (fun _ _ h => h))
 have m0 := kp_cell hk3 n0 (by simp; omega)
 have m1 := kp_cell hk3 n1 (by simp; omega)
 have m2 := kp_cell hk3 n2 (by simp; omega)
 have m3 := kp_cell hk3 n3 (by simp; omega)
 have m4 := kp_cell hk3 n4 (by simp; omega)
 have m5 := kp_cell hk3 n5 (by simp; omega)
 clear hk3 hB3
 go_wp2_with fail
 refine hK.out _ _ ?_ (fun hH1 => ?_)
 · exact ⟨m0, m1, m2, m3, m4, m5⟩
 clear hK K hH0
 try simp only [List.getElem_toArray, List.getElem_cons_succ, List.getElem_cons_zero, Act.put, List.setIfInBounds_toArray, List.set_cons_zero, List.set_cons_succ]
 refine wpAnyH_ready (rs := [5]) (by kernel_rfl) (by simp) ?_
 refine AllReadyH.cons rfl (fun K hK => ?_) AllReadyH.nil
 go_simp
 go_at_call 35
 refine (grow_more w.heap.size w1.heap.size size ([] ++ [[]]) _ _ HB3.out WDS1 0 1 (by decide) (by decide)).mono ?_
 rintro e w4 ⟨rfl, hk4, hB4⟩
 have HB4 := Lib.hid ((hB4.weak (Q := fun k => w1.heap.size ≤ k) (fun k h => by have := HK3.out.size; omega)).tight)
 have HK4 := Lib.hid (HK3.out.trans hk4 (fun _ _ h => h))
 have o0 := kp_cell hk4 m0 (by simp; omega)
 have o1 := kp_cell hk4 m1 (by simp; omega)
 have o2 := kp_cell hk4 m2 (by simp; omega)
 have o3 := kp_cell hk4 m3 (by simp; omega)
 have o4 := kp_cell hk4 m4 (by simp; omega)
 have o5 := kp_cell hk4 m5 (by simp; omega)
 clear hk4 hB4
 go_wp2_with fail
 refine hK.out _ _ ?_ (fun hH2 => ?_)
 · exact ⟨o0, o1, o2, o3, o4, o5⟩
 clear hK K hH1
 try simp only [List.getElem_toArray, List.getElem_cons_succ, List.getElem_cons_zero, Act.put, List.setIfInBounds_toArray, List.set_cons_zero, List.set_cons_succ]
 have HE2 : growB ([] ++ [[]]) 0 1 = [zer 1] := rfl
 rw [HE2] at HB4
 have HND4 := Lib.hid (nd_base HN.out (HB1.out.trans (HK4.out.below (by omega) (fun k hk => by omega))))
 have HCALL := Lib.hid (write_any size h200 8 w.heap.size w1.heap.size [zer 1] _ w4 0 0 m n ⟨qA, qa, qB, qb⟩ HB4.out (fun k hk => ⟨hk.2.1, hk.2.2⟩) SOK1 (by decide) (by decide) HND4.out HNO.out.1 ht (by have := HNO.out.2; omega))
 dsimp only at HCALL
 refine wpAnyH_ready (rs := [6]) (by kernel_rfl) (by simp) ?_
 refine AllReadyH.cons rfl (fun K hK => ?_) AllReadyH.nil
 go_simp
 go_at_call 34
 refine HCALL.out.mono ?_
 rintro e w5 (⟨hnone, rfl, hk5⟩ | ⟨s2, hsome, rfl, hk5, hB5⟩)
 · have HK5 := Lib.hid (HK4.out.trans hk5 (fun k hk h => h.1))
   clear hk5 hK
   go_wp2
   exact ⟨⟨rfl, rfl, rfl⟩, hnone, rfl, HK5.out⟩
 have HK5 := Lib.hid (HK4.out.trans hk5 (fun k hk h => h.1))
 have HB5 := Lib.hid hB5
 have HS5 := Lib.hid hsome
 have HSK := Lib.hid (wr_some 200 size 8 n [zer 1] 0 0 s2 HNO.out.1 SOK1 (by decide) (by decide) hsome).1
 have q0 := kp_cell hk5 o0 (by simp; omega)
 have q1 := kp_cell hk5 o1 (by simp; omega)
 have q2 := kp_cell hk5 o2 (by simp; omega)
 have q3 := kp_cell hk5 o3 (by simp; omega)
 have q4 := kp_cell hk5 o4 (by simp; omega)
 have q5 := kp_cell hk5 o5 (by simp; omega)
 refine hK.out _ _ ?_ (fun hH3 => ?_)
 · exact ⟨q0, q1, q2, q3, q4, q5⟩
 clear hK K hH2 hk5 hB5 hsome n0 n1 n2 n3 n4 n5 m0 m1 m2 m3 m4 m5 o0 o1 o2 o3 o4 o5 q0 q1 q2 q3 q4 q5
 refine wpAnyH_done (by kernel_rfl) ?_ _
 clear hH3
 refine panq_normal ?_
 have HX4' := Lib.hid (HK5.out.row HX4.out (by omega))
 have HX5' := Lib.hid (HK5.out.row HX5.out (by omega))
 go_wp2_with fail
 refine (texts_any w.heap.size w1.heap.size size s2 _ w5 HB5.out HSK.out).mono ?_
 rintro e w6 ⟨A, c, rfl, hown, hb6⟩
 have z4 := (hb6.block _ (row_lt HX4'.out)).trans HX4'.out
 have z5 := (hb6.block _ (row_lt HX5'.out)).trans HX5'.out
 have c4 : w6.cell? ⟨w.heap.size + 1, 0, none⟩ = some (.slice none 0 0) := by rw [cell_of_row _ _ _ _ _ _ z4]; rfl
 have c5 : w6.cell? ⟨w.heap.size + 2, 0, none⟩ = some (.bool false) := by rw [cell_of_row _ _ _ _ _ _ z5]; rfl
 have f4 := row_free z4 0
 have f5 := row_free z5 0
 have HOWN := Lib.hid hown
 have HB6 := Lib.hid ((HB1.out.trans (HK5.out.below (by omega) (fun k hk => by omega))).trans (hb6.mono (by have := HK5.out.size; omega)))
 have Z4 := Lib.hid z4
 have Z5 := Lib.hid z5
 clear z4 z5 hown hb6
 go_wp2_with fail
 refine leaves_cons (f := 33) (args := #[.pointer (some ⟨w.heap.size + 1, 0, none⟩), .pointer (some ⟨w.heap.size + 1 + 1, 0, none⟩)]) (by simp) (by simp [go_sem]) ?_
 refine (catch_idle ⟨w.heap.size + 1, 0, none⟩ ⟨w.heap.size + 1 + 1, 0, none⟩ _).mono ?_
 rintro e u' w'' ⟨rfl, rfl, rfl⟩
 refine ⟨.tuple #[.slice A s2.length c, .bool true], ?_, .inr ⟨s2, A, c, HS5.out, rfl, ?_, ?_⟩⟩
 · simp [results, Tryz.results10, go_sem, c4, c5]
 · refine own_keepB (own_low HOWN.out (by have := HK5.out.size; omega)) (fun k hk => ?_)
   obtain ⟨cu, hcu⟩ := own_T HOWN.out hk
   exact (Below.heap_setCell _ ⟨w.heap.size + 1 + 1, 0, none⟩ _ k (ne_T hcu Z5.out (by decide))).trans (Below.heap_setCell _ ⟨w.heap.size + 1, 0, none⟩ _ k (ne_T hcu Z4.out (by decide)))
 · exact (HB6.out.setCell (p := ⟨w.heap.size + 1, 0, none⟩) (by show w.heap.size ≤ w.heap.size + 1; omega) _).setCell (p := ⟨w.heap.size + 1 + 1, 0, none⟩) (by show w.heap.size ≤ w.heap.size + 1 + 1; omega) _
theorem implBuild_a (m : Nat) (n : Nd) (h : Hd) (w : World) (S : Nat → Prop) (size : Int) (hn : NdAt w S m n h) (ht : totN m n ≤ 2000000) :
 Calls Tryz.prog 10 #[.agg #[.int .i64 n.kind, .string n.data, .slice h.A n.ptrs.length h.a, .int .i64 n.size, .int .i64 n.count, .slice h.B n.items.length h.b], .int .i64 size] w (BuildQ (bldV n size) w) := by
 by_cases hh : nodeOk n = true ∧ 1 ≤ size ∧ size ≤ 200
 · obtain ⟨z, rfl⟩ := Int.eq_ofNat_of_zero_le (show 0 ≤ size by omega)
   have := implBuild_yes m n h w S z hn ht hh.1 (by omega) (by omega)
   have e : bldV n (z : Int) = buildP 200 z n := by unfold bldV; rw [if_pos hh]; rfl
   rw [e]
   exact this
 · exact implBuild_no m n h w S size hn ht hh
end Go.Proofs.YtlbfffokkhccaaaGreatDoor
