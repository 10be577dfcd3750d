/- The program's place of a choice. -/
import Derived.Test.YtfgebmmnlneciaaDoorPlace
namespace Go.Proofs.YtfgebmmnlneciaaDoor
open Go.RowKit
theorem scI3 : scI 3 = 4 := by decide
theorem fr_cells {g bm b : Nat} {w w' : World} (h : Fr g bm w w') (hb : b < w.heap.size) (h1 : b ≠ g) (h2 : b ≠ bm) (i : Nat) : w'.cell? ⟨b, i, none⟩ = w.cell? ⟨b, i, none⟩ := by
  have := h.2 b hb h1 h2
  unfold World.cell?
  rw [this]
theorem Pl.ltm {w : World} {R g bm : Nat} {v1 v2 : Value} {s : PS} {sl : List Nat} {N : Nat} (h : Pl w R g bm v1 v2 s sl N) : bm < w.heap.size := by
  obtain ⟨_, _, _, hm, _⟩ := h.holes
  exact hm.lt
set_option maxHeartbeats 8000000 in
set_option maxRecDepth 100000 in
theorem place_c (R g bm n : Nat) (v1 v2 : Value) (s : PS) (sl : List Nat) (N : Nat) (hN : N ≤ 900) (hR : 1 < R) (hbd : PBd n s) (hn : n ≤ 12) (z el : Int) (hz0 : 1 ≤ z) (hz1 : z ≤ 6) (w : World) (ht : Tab w) (h : Pl w R g bm v1 v2 s sl N) :
    Calls Tryd.prog 30 #[.pointer (some ⟨g, 0, none⟩), .agg #[.int .i64 z, .bool true, .int .i64 el]] w (ShareP R g bm v1 (placeF ⟨z, true, el⟩ s).1 (placeF ⟨z, true, el⟩ s).2 sl (N + 12) w) := by
  have hm := hbd.many
  have h1 := (h.set_ 5 (.int .i64 ((s.many : Int) + 1)) { s with many := s.many + 1 } (by simp [planCells]) rfl rfl).alloc (.cells #[.int .i64 z, .bool true, .int .i64 el] 43)
  have hb1 := (h.set_below (Below.refl R w) 5 (.int .i64 ((s.many : Int) + 1))).alloc (by have := h.rs; simpa using this) (.cells #[.int .i64 z, .bool true, .int .i64 el] 43)
  have HTA := Lib.hid (ht.below hb1 hR)
  have HBA := Lib.hid hb1
  have HH := Lib.hid h1
  have HTM := Lib.hid (tag_bd hbd true)
  have hg := h.lt
  have hmb := h.ltm
  have c5 := h.cells.2.2.2.2.2.1
  have f5 := row_free h.row 5
  have hsl := hbd.len
  have HBD := Lib.hid hbd
  have HSH := Lib.hid (pbm_shared (tag_bd hbd true) hn)
  clear h ht hbd h1 hb1
  have hkz := kOf_le z
  by_cases hmt : s.many + 1 = 2
  · have HT2 := Lib.hid (tag_two hmt)
    have hm1 : ((s.many : Int) + 1 == 2) = true := by simp; omega
    have HL : Hid (LBd 40 s.ls) := Lib.hid (HBD.out.ls.mono (by omega))
    have HRM := Lib.hid (room_any R g bm v1 v2 { s with many := s.many + 1 } sl N (by omega) HL.out 2 4 _ (by decide) (by decide) HH.out)
    have HTB := Lib.hid (scaleOf_any 3 _ HTA.out (by decide) (by decide))
    rw [scI3] at HTB
    clear hmt
    go_enter Tryd.func30, Tryd.ntmps30
    go_wp2_with fail
    refine HTB.out.mono ?_
    rintro e w1 ⟨rfl, rfl⟩
    go_wp2_with fail
    refine HRM.out.mono ?_
    rintro e w2 ⟨rfl, hp2, hb2, hfr2⟩
    have h3 := hp2.set_ 3 (.int .i64 ((roomF 2 s.ls).1 : Int)) { s with many := s.many + 1, ls := (roomF 2 s.ls).2, tag := (roomF 2 s.ls).1 } (by simp [planCells]) rfl rfl
    rw [← HT2.out] at h3
    have hb3 := hp2.set_below (HBA.out.trans hb2) 3 (.int .i64 ((roomF 2 s.ls).1 : Int))
    have f3 := row_free hp2.row 3
    have d3 := hp2.cells.2.2.2.1
    have HP3 := Lib.hid h3
    have HB3 := Lib.hid hb3
    have HT3 := Lib.hid (HTA.out.below ((Below.refl R _).trans (hp2.set_below hb2 3 (.int .i64 ((roomF 2 s.ls).1 : Int)))) hR)
    have q : ∀ i, w2.cell? ⟨w.heap.size, i, none⟩ = (#[Value.int .i64 z, .bool true, .int .i64 el] : Array Value)[i]? := fun i => by
      rw [fr_cells hfr2 (by simp) (by omega) (by omega)]
      rw [show w.heap.size = (w.setCell ⟨g, 5, none⟩ (.int .i64 ((s.many : Int) + 1))).heap.size by simp [World.setCell]]
      exact cell_of_row _ _ i _ _ _ (heap_alloc_new _ _)
    have q0 : w2.cell? ⟨w.heap.size, 0, none⟩ = some (.int .i64 z) := q 0
    have q1 : w2.cell? ⟨w.heap.size, 1, none⟩ = some (.bool true) := q 1
    have hlt2 : w.heap.size < w2.heap.size := by have := hfr2.1; simp at this; omega
    have hne : ¬ w.heap.size = g := by omega
    clear hp2 hb2 h3 hb3 hfr2 q
    by_cases hp : z = 6
    · subst hp
      have HE := Lib.hid (place_cp (f := ⟨6, true, el⟩) (s := s) rfl rfl)
      have HSP := Lib.hid (sharedPointer_any R g bm v1 v2 (tagF true s) sl (N + 2) (by have := HTM.out.ptrs; omega) _ HP3.out)
      go_wp2_with fail
      refine HSP.out.mono ?_
      rintro e w4 ⟨rfl, hp4, hb4⟩
      have HP4 := Lib.hid hp4
      have HB4 := Lib.hid hb4
      clear hp4 hb4
      go_wp2
      go_ret
      refine ⟨v2, ?_⟩
      rw [PlaceP, HE.out]
      exact ⟨rfl, HP4.out.mono (by omega), HB3.out.trans HB4.out⟩
    · have HE := Lib.hid (place_cs (f := ⟨z, true, el⟩) (s := s) rfl hp)
      have hz6 : (z == 6) = false := by simpa using hp
      have hz5 : z ≤ 5 := by omega
      have HL3 : Hid (LBd 40 (tagF true s).ls) := Lib.hid (HTM.out.ls.mono (by omega))
      have HSP := Lib.hid (sharedRoom_any R g bm v1 v2 (tagF true s) sl (N + 2) (by omega) HL3.out (by have := HTM.out.len; omega) HSH.out (kOf z) (scI z) (scI_k z) (kOf_le z) _ HP3.out)
      have HSC := Lib.hid (scaleOf_any z _ HT3.out hz0 hz5)
      clear hp
      go_wp2_with fail
      refine HSC.out.mono ?_
      rintro e w4 ⟨rfl, rfl⟩
      go_wp2_with fail
      refine HSP.out.mono ?_
      rintro e w4 ⟨v2', rfl, hp4, hb4⟩
      have HP4 := Lib.hid hp4
      have HB4 := Lib.hid hb4
      clear hp4 hb4
      go_wp2
      go_ret
      refine ⟨v2', ?_⟩
      rw [PlaceP, HE.out]
      exact ⟨rfl, HP4.out.mono (by omega), HB3.out.trans HB4.out⟩
  · have HT2 := Lib.hid (tag_not hmt)
    have hm1 : ((s.many : Int) + 1 == 2) = false := by simp; omega
    have HH2 : Hid (Pl ((w.setCell ⟨g, 5, none⟩ (.int .i64 ((s.many : Int) + 1))).alloc (.cells #[.int .i64 z, .bool true, .int .i64 el] 43)) R g bm v1 v2 (tagF true s) sl N) := by
      refine Lib.hid ?_
      rw [HT2.out]
      exact HH.out
    clear hmt
    by_cases hp : z = 6
    · subst hp
      have HE := Lib.hid (place_cp (f := ⟨6, true, el⟩) (s := s) rfl rfl)
      have HSP := Lib.hid (sharedPointer_any R g bm v1 v2 (tagF true s) sl N (by have := HTM.out.ptrs; omega) _ HH2.out)
      go_enter Tryd.func30, Tryd.ntmps30
      go_wp2_with fail
      refine HSP.out.mono ?_
      rintro e w4 ⟨rfl, hp4, hb4⟩
      have HP4 := Lib.hid hp4
      have HB4 := Lib.hid hb4
      clear hp4 hb4
      go_wp2
      go_ret
      refine ⟨v2, ?_⟩
      rw [PlaceP, HE.out]
      exact ⟨rfl, HP4.out.mono (by omega), HBA.out.trans HB4.out⟩
    · have HE := Lib.hid (place_cs (f := ⟨z, true, el⟩) (s := s) rfl hp)
      have hz6 : (z == 6) = false := by simpa using hp
      have hz5 : z ≤ 5 := by omega
      have HL3 : Hid (LBd 40 (tagF true s).ls) := Lib.hid (HTM.out.ls.mono (by omega))
      have HSP := Lib.hid (sharedRoom_any R g bm v1 v2 (tagF true s) sl N (by omega) HL3.out (by have := HTM.out.len; omega) HSH.out (kOf z) (scI z) (scI_k z) (kOf_le z) _ HH2.out)
      have HSC := Lib.hid (scaleOf_any z _ HTA.out hz0 hz5)
      clear hp
      go_enter Tryd.func30, Tryd.ntmps30
      go_wp2_with fail
      refine HSC.out.mono ?_
      rintro e w4 ⟨rfl, rfl⟩
      go_wp2_with fail
      refine HSP.out.mono ?_
      rintro e w4 ⟨v2', rfl, hp4, hb4⟩
      have HP4 := Lib.hid hp4
      have HB4 := Lib.hid hb4
      clear hp4 hb4
      go_wp2
      go_ret
      refine ⟨v2', ?_⟩
      rw [PlaceP, HE.out]
      exact ⟨rfl, HP4.out.mono (by omega), HBA.out.trans HB4.out⟩
end Go.Proofs.YtfgebmmnlneciaaDoor
