/- The specification's field. -/
import Derived.Test.YtfgebmmnlneciaaDoorSChoice
namespace Go.Proofs.YtfgebmmnlneciaaDoor
open Go.RowKit
set_option maxHeartbeats 1000000 in
theorem l7Scale_any (z : Int) (w : World) (h0 : 1 ≤ z) (h1 : z ≤ 5) :
    Calls Tryd.prog 55 #[.int .i64 z] w fun e w' => e = .returned (.int .i64 (scI z)) ∧ w = w' := by
  have hz : z = 1 ∨ z = 2 ∨ z = 3 ∨ z = 4 ∨ z = 5 := by omega
  rcases hz with rfl | rfl | rfl | rfl | rfl
  all_goals
    go_enter Tryd.func55, Tryd.ntmps55
    go_wp2
    go_ret
    exact ⟨ret_int (by decide), rfl⟩
set_option maxHeartbeats 4000000 in
set_option maxRecDepth 100000 in
theorem field_n (R g n : Nat) (v1 v2 : Value) (s : PS) (hR : 1 < R) (hbd : PBd n s) (hn : n ≤ 12) (z el : Int) (hz0 : 1 ≤ z) (hz1 : z ≤ 6) (w : World) (h : Sl w R g v1 v2 s) :
    Calls Tryd.prog 44 #[.pointer (some ⟨g, 0, none⟩), .agg #[.int .i64 z, .bool false, .int .i64 el]] w (SChP R g v1 v2 (placeF ⟨z, false, el⟩ s).1 (placeF ⟨z, false, el⟩ s).2 w) := by
  have hba := (Below.refl R w).alloc h.rs (.cells #[.int .i64 z, .bool false, .int .i64 el] 43)
  have HBD := Lib.hid hbd
  have hg := h.lt
  by_cases hp : z = 6
  · subst hp
    have HE := Lib.hid (place_np (f := ⟨6, false, el⟩) (s := s) rfl rfl)
    have c1 := h.cells.2.1
    have f1 := row_free h.row 1
    have hpt := hbd.ptrs
    have HS := Lib.hid ((h.set_ 1 (.int .i64 ((s.ptrs : Int) + 1)) { s with ptrs := s.ptrs + 1 } (by simp [layCells]) rfl).alloc (.cells #[.int .i64 6, .bool false, .int .i64 el] 43))
    have HB := Lib.hid ((h.set_below (Below.refl R w) 1 (.int .i64 ((s.ptrs : Int) + 1))).alloc (by have := h.rs; simpa using this) (.cells #[.int .i64 6, .bool false, .int .i64 el] 43))
    clear h hbd hba
    go_enter Tryd.func44, Tryd.ntmps44
    go_wp2
    go_ret
    rw [SChP, HE.out]
    exact ⟨v1, v2, ret_int rfl, HS.out, HB.out, (FrS.set g 1 _ _ w _).trans (FrS.alloc _ _ _ _ _)⟩
  · have HE := Lib.hid (place_ns (f := ⟨z, false, el⟩) (s := s) rfl hp)
    have hz6 : (z == 6) = false := by simpa using hp
    have hz5 : z ≤ 5 := by omega
    have HL : Hid (LBd 40 s.ls) := Lib.hid (HBD.out.ls.mono (by omega))
    have HRM := Lib.hid (data_any R g v1 v2 s HL.out (kOf z) (scI z) _ (scI_k z) (kOf_le z) (h.alloc (.cells #[.int .i64 z, .bool false, .int .i64 el] 43)))
    have HBA := Lib.hid hba
    clear hp h hbd hba
    go_enter Tryd.func44, Tryd.ntmps44
    go_wp2_with fail
    refine (l7Scale_any z _ hz0 hz5).mono ?_
    rintro e w1 ⟨rfl, rfl⟩
    go_wp2_with fail
    refine HRM.out.mono ?_
    rintro e w1 ⟨rfl, hp1, hb1, hf1⟩
    have HP1 := Lib.hid hp1
    have HB1 := Lib.hid hb1
    have HF1 : Hid (FrS g v1 v2 w w1) := Lib.hid ((FrS.alloc _ _ _ _ _).trans (FrS.of_fr hf1))
    clear hp1 hb1 hf1
    go_wp2
    go_ret
    rw [SChP, HE.out]
    exact ⟨v1, v2, rfl, HP1.out, HBA.out.trans HB1.out, HF1.out⟩
/-- a choice's end: two words known of the box. -/
theorem box_cells {w w2 : World} {g : Nat} {z el : Int} {u : Value} {i : Nat} {T : TypeId} (hg : g < w.heap.size) (hfr : Fr g g ((w.setCell ⟨g, i, none⟩ u).alloc (.cells #[.int .i64 z, .bool true, .int .i64 el] T)) w2) :
    w2.cell? ⟨w.heap.size, 0, none⟩ = some (.int .i64 z) ∧ w2.cell? ⟨w.heap.size, 1, none⟩ = some (.bool true) ∧ w.heap.size < w2.heap.size := by
  have q : ∀ j, w2.cell? ⟨w.heap.size, j, none⟩ = (#[Value.int .i64 z, .bool true, .int .i64 el] : Array Value)[j]? := fun j => by
    rw [fr_cells hfr (by simp) (by omega) (by omega)]
    rw [show w.heap.size = (w.setCell ⟨g, i, none⟩ u).heap.size by simp [World.setCell]]
    exact cell_of_row _ _ j _ _ _ (heap_alloc_new _ _)
  refine ⟨q 0, q 1, ?_⟩
  have := hfr.1
  simp at this
  omega
theorem tag_point (c : Bool) (s : PS) : (tagF c s).point = s.point ∧ (tagF c s).ptrs = s.ptrs := by
  unfold tagF
  cases c
  · exact ⟨rfl, rfl⟩
  · rw [if_pos rfl]
    by_cases h : s.many + 1 = 2
    · rw [if_pos h]; exact ⟨rfl, rfl⟩
    · rw [if_neg h]; exact ⟨rfl, rfl⟩
theorem share_ptr_new {T : PS} (h : T.point < 0) : sharePtrF T = (T.ptrs, { T with ptrs := T.ptrs + 1, point := T.ptrs }) := by rw [sharePtrF, if_pos h]
theorem share_ptr_old {T : PS} (h : ¬ T.point < 0) : sharePtrF T = (T.point.toNat, T) := by rw [sharePtrF, if_neg h]
set_option maxHeartbeats 8000000 in
set_option maxRecDepth 100000 in
theorem field_c2 (R g n : Nat) (v1 v2 : Value) (s : PS) (hR : 1 < R) (hbd : PBd n s) (hn : n ≤ 12) (z el : Int) (hz0 : 1 ≤ z) (hz1 : z ≤ 6) (hmt : s.many + 1 = 2) (w : World) (h : Sl w R g v1 v2 s) :
    Calls Tryd.prog 44 #[.pointer (some ⟨g, 0, none⟩), .agg #[.int .i64 z, .bool true, .int .i64 el]] w (SChP R g v1 v2 (placeF ⟨z, true, el⟩ s).1 (placeF ⟨z, true, el⟩ s).2 w) := by
  have hm := hbd.many
  have h0' := h.set_ 9 (.int .i64 ((s.many : Int) + 1)) { s with many := s.many + 1 } (by simp [layCells]) rfl
  have hb0 := h.set_below (Below.refl R w) 9 (.int .i64 ((s.many : Int) + 1))
  have hrs : R ≤ (w.setCell ⟨g, 9, none⟩ (.int .i64 ((s.many : Int) + 1))).heap.size := h0'.rs
  have HH0 := Lib.hid h0'
  have HB0 := Lib.hid hb0
  have HBA := Lib.hid (hb0.alloc hrs (.cells #[.int .i64 z, .bool true, .int .i64 el] 43))
  have HH := Lib.hid (h0'.alloc (.cells #[.int .i64 z, .bool true, .int .i64 el] 43))
  have HTM := Lib.hid (tag_bd hbd true)
  have HTP := Lib.hid (tag_point true s)
  have hg := h.lt
  have hrg := h.rg
  have hpt := hbd.ptrs
  have hpo := hbd.point
  have c9 := h.cells.2.2.2.2.2.2.2.2.2.1
  have f9 := row_free h.row 9
  have HSH := Lib.hid (pbm_shared (tag_bd hbd true) hn)
  have HLS : Hid (LBd 40 s.ls) := Lib.hid (hbd.ls.mono (by omega))
  have hkz := kOf_le z
  have HT2 := Lib.hid (tag_two hmt)
  have hm1 : ((s.many : Int) + 1 == 2) = true := by simp; omega
  have HRM := Lib.hid (data_any R g v1 v2 { s with many := s.many + 1 } HLS.out 2 4 _ (by decide) (by decide) HH.out)
  clear h h0' hb0 hmt hbd
  go_enter Tryd.func44, Tryd.ntmps44
  go_wp2_with fail
  refine HRM.out.mono ?_
  rintro e w2 ⟨rfl, hp2, hb2, hfr2⟩
  have h3 := hp2.set_ 8 (.int .i64 ((roomF 2 s.ls).1 : Int)) { s with many := s.many + 1, ls := (roomF 2 s.ls).2, tag := (roomF 2 s.ls).1 } (by simp [layCells]) rfl
  rw [← HT2.out] at h3
  have hb3 := hp2.set_below (HBA.out.trans hb2) 8 (.int .i64 ((roomF 2 s.ls).1 : Int))
  have f8 := row_free hp2.row
  have d8 := hp2.cells.2.2.2.2.2.2.2.2.1
  have d1 : w2.cell? ⟨g, 1, none⟩ = some (.int .i64 (s.ptrs : Int)) := hp2.cells.2.1
  have d12 : w2.cell? ⟨g, 12, none⟩ = some (.int .i64 s.point) := hp2.cells.2.2.2.2.2.2.2.2.2.2.2.2
  obtain ⟨q0, q1, hlt2⟩ := box_cells hg hfr2
  have hne : ¬ w.heap.size = g := by omega
  have HP3 := Lib.hid h3
  have HB3 := Lib.hid hb3
  have HF3 := Lib.hid ((((FrS.set g 9 v1 v2 w (.int .i64 ((s.many : Int) + 1))).trans (FrS.alloc _ _ _ _ _)).trans (FrS.of_fr hfr2)).trans (FrS.set g 8 _ _ w2 (.int .i64 ((roomF 2 s.ls).1 : Int))))
  clear hp2 hb2 h3 hb3 hfr2
  by_cases hp : z = 6
  · subst hp
    have HE := Lib.hid (place_cp (f := ⟨6, true, el⟩) (s := s) rfl rfl)
    by_cases hq : s.point < 0
    · have HSE := Lib.hid (share_ptr_new (T := tagF true s) (by rw [HTP.out.1]; exact hq))
      rw [HTP.out.2] at HSE
      have HS4 := Lib.hid ((HP3.out.set_ 12 (.int .i64 (s.ptrs : Int)) { tagF true s with point := s.ptrs } (by simp [layCells]) rfl).set_ 1 (.int .i64 ((s.ptrs : Int) + 1)) { tagF true s with ptrs := s.ptrs + 1, point := s.ptrs } (by simp [layCells]) rfl)
      have HB4 := Lib.hid (((HP3.out.set_below HB3.out 12 (.int .i64 (s.ptrs : Int)))).setCell (p := ⟨g, 1, none⟩) hrg (.int .i64 ((s.ptrs : Int) + 1)))
      go_wp2
      go_ret
      rw [SChP, HE.out, HSE.out]
      exact ⟨v1, v2, rfl, HS4.out, HB4.out, (HF3.out.trans (FrS.set g 12 _ _ _ _)).trans (FrS.set g 1 _ _ _ _)⟩
    · have HSE := Lib.hid (share_ptr_old (T := tagF true s) (by rw [HTP.out.1]; exact hq))
      rw [HTP.out.1] at HSE
      have h0p : 0 ≤ s.point := by omega
      go_wp2
      go_ret
      rw [SChP, HE.out, HSE.out]
      exact ⟨v1, v2, ret_int (by show s.point = ((s.point.toNat : Nat) : Int); omega), HP3.out, HB3.out, HF3.out⟩
  · have HE := Lib.hid (place_cs (f := ⟨z, true, el⟩) (s := s) rfl hp)
    have hz6 : (z == 6) = false := by simpa using hp
    have hz5 : z ≤ 5 := by omega
    have HL3 : Hid (LBd 40 (tagF true s).ls) := Lib.hid (HTM.out.ls.mono (by omega))
    have HSP := Lib.hid (choice_any R g v1 v2 (tagF true s) HL3.out (by have := HTM.out.len; omega) HSH.out (kOf z) (scI z) (scI_k z) (kOf_le z) _ HP3.out)
    clear hp
    go_wp2_with fail
    refine (l7Scale_any z _ hz0 hz5).mono ?_
    rintro e w4 ⟨rfl, rfl⟩
    go_wp2_with fail
    refine HSP.out.mono ?_
    rintro e w4 ⟨v1', v2', rfl, hp4, hb4, hf4⟩
    have HF4 := Lib.hid (HF3.out.trans hf4)
    clear hf4
    have HP4 := Lib.hid hp4
    have HB4 := Lib.hid hb4
    clear hp4 hb4
    go_wp2
    go_ret
    rw [SChP, HE.out]
    exact ⟨v1', v2', rfl, HP4.out, HB3.out.trans HB4.out, HF4.out⟩
set_option maxHeartbeats 8000000 in
set_option maxRecDepth 100000 in
theorem field_c1 (R g n : Nat) (v1 v2 : Value) (s : PS) (hR : 1 < R) (hbd : PBd n s) (hn : n ≤ 12) (z el : Int) (hz0 : 1 ≤ z) (hz1 : z ≤ 6) (hmt : s.many + 1 ≠ 2) (w : World) (h : Sl w R g v1 v2 s) :
    Calls Tryd.prog 44 #[.pointer (some ⟨g, 0, none⟩), .agg #[.int .i64 z, .bool true, .int .i64 el]] w (SChP R g v1 v2 (placeF ⟨z, true, el⟩ s).1 (placeF ⟨z, true, el⟩ s).2 w) := by
  have hm := hbd.many
  have h0' := h.set_ 9 (.int .i64 ((s.many : Int) + 1)) { s with many := s.many + 1 } (by simp [layCells]) rfl
  have hb0 := h.set_below (Below.refl R w) 9 (.int .i64 ((s.many : Int) + 1))
  have hrs : R ≤ (w.setCell ⟨g, 9, none⟩ (.int .i64 ((s.many : Int) + 1))).heap.size := h0'.rs
  have HH0 := Lib.hid h0'
  have HB0 := Lib.hid hb0
  have HBA := Lib.hid (hb0.alloc hrs (.cells #[.int .i64 z, .bool true, .int .i64 el] 43))
  have HH := Lib.hid (h0'.alloc (.cells #[.int .i64 z, .bool true, .int .i64 el] 43))
  have HTM := Lib.hid (tag_bd hbd true)
  have HTP := Lib.hid (tag_point true s)
  have hg := h.lt
  have hrg := h.rg
  have hpt := hbd.ptrs
  have hpo := hbd.point
  have c9 := h.cells.2.2.2.2.2.2.2.2.2.1
  have f9 := row_free h.row 9
  have HSH := Lib.hid (pbm_shared (tag_bd hbd true) hn)
  have HLS : Hid (LBd 40 s.ls) := Lib.hid (hbd.ls.mono (by omega))
  have hkz := kOf_le z
  have HT2 := Lib.hid (tag_not hmt)
  have hm1 : ((s.many : Int) + 1 == 2) = false := by simp; omega
  have d1 := h.cells.2.1
  have d12 := h.cells.2.2.2.2.2.2.2.2.2.2.2.2
  have f1 := row_free h.row 1
  have f12 := row_free h.row 12
  rw [← HT2.out] at HH0 HH
  clear h h0' hb0 hmt hbd
  by_cases hp : z = 6
  · subst hp
    have HE := Lib.hid (place_cp (f := ⟨6, true, el⟩) (s := s) rfl rfl)
    by_cases hq : s.point < 0
    · have HSE := Lib.hid (share_ptr_new (T := tagF true s) (by rw [HTP.out.1]; exact hq))
      rw [HTP.out.2] at HSE
      have h4 := (HH0.out.set_ 12 (.int .i64 (s.ptrs : Int)) { tagF true s with point := s.ptrs } (by simp [layCells]) rfl).set_ 1 (.int .i64 ((s.ptrs : Int) + 1)) { tagF true s with ptrs := s.ptrs + 1, point := s.ptrs } (by simp [layCells]) rfl
      have HB4 := Lib.hid ((((HH0.out.set_below HB0.out 12 (.int .i64 (s.ptrs : Int)))).setCell (p := ⟨g, 1, none⟩) hrg (.int .i64 ((s.ptrs : Int) + 1))).alloc h4.rs (.cells #[.int .i64 6, .bool true, .int .i64 el] 43))
      have HS4 := Lib.hid (h4.alloc (.cells #[.int .i64 6, .bool true, .int .i64 el] 43))
      clear h4
      go_enter Tryd.func44, Tryd.ntmps44
      go_wp2
      go_ret
      rw [SChP, HE.out, HSE.out]
      exact ⟨v1, v2, rfl, HS4.out, HB4.out, (((FrS.set g 9 _ _ w _).trans (FrS.set g 12 _ _ _ _)).trans (FrS.set g 1 _ _ _ _)).trans (FrS.alloc _ _ _ _ _)⟩
    · have HSE := Lib.hid (share_ptr_old (T := tagF true s) (by rw [HTP.out.1]; exact hq))
      rw [HTP.out.1] at HSE
      have h0p : 0 ≤ s.point := by omega
      go_enter Tryd.func44, Tryd.ntmps44
      go_wp2
      go_ret
      rw [SChP, HE.out, HSE.out]
      exact ⟨v1, v2, ret_int (by show s.point = ((s.point.toNat : Nat) : Int); omega), HH.out, HBA.out, (FrS.set g 9 _ _ w _).trans (FrS.alloc _ _ _ _ _)⟩
  · have HE := Lib.hid (place_cs (f := ⟨z, true, el⟩) (s := s) rfl hp)
    have hz6 : (z == 6) = false := by simpa using hp
    have hz5 : z ≤ 5 := by omega
    have HL3 : Hid (LBd 40 (tagF true s).ls) := Lib.hid (HTM.out.ls.mono (by omega))
    have HSP := Lib.hid (choice_any R g v1 v2 (tagF true s) HL3.out (by have := HTM.out.len; omega) HSH.out (kOf z) (scI z) (scI_k z) (kOf_le z) _ HH.out)
    clear hp
    go_enter Tryd.func44, Tryd.ntmps44
    go_wp2_with fail
    refine (l7Scale_any z _ hz0 hz5).mono ?_
    rintro e w4 ⟨rfl, rfl⟩
    go_wp2_with fail
    refine HSP.out.mono ?_
    rintro e w4 ⟨v1', v2', rfl, hp4, hb4, hf4⟩
    have HF4 : Hid (FrS g v1 v2 w w4) := Lib.hid (((FrS.set g 9 _ _ w _).trans (FrS.alloc _ _ _ _ _)).trans hf4)
    clear hf4
    have HP4 := Lib.hid hp4
    have HB4 := Lib.hid hb4
    clear hp4 hb4
    go_wp2
    go_ret
    rw [SChP, HE.out]
    exact ⟨v1', v2', rfl, HP4.out, HBA.out.trans HB4.out, HF4.out⟩
theorem field_any (R g n : Nat) (v1 v2 : Value) (s : PS) (hR : 1 < R) (hbd : PBd n s) (hn : n ≤ 12) (z : Int) (c : Bool) (el : Int) (hz0 : 1 ≤ z) (hz1 : z ≤ 6) (w : World) (h : Sl w R g v1 v2 s) :
    Calls Tryd.prog 44 #[.pointer (some ⟨g, 0, none⟩), .agg #[.int .i64 z, .bool c, .int .i64 el]] w (SChP R g v1 v2 (placeF ⟨z, c, el⟩ s).1 (placeF ⟨z, c, el⟩ s).2 w) := by
  cases c
  · exact field_n R g n v1 v2 s hR hbd hn z el hz0 hz1 w h
  · by_cases hmt : s.many + 1 = 2
    · exact field_c2 R g n v1 v2 s hR hbd hn z el hz0 hz1 hmt w h
    · exact field_c1 R g n v1 v2 s hR hbd hn z el hz0 hz1 hmt w h
end Go.Proofs.YtfgebmmnlneciaaDoor
