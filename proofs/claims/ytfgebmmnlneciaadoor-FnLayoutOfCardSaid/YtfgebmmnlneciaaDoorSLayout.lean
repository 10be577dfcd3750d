/- The specification's l7Layout. -/
import Derived.Test.YtfgebmmnlneciaaDoorSField
namespace Go.Proofs.YtfgebmmnlneciaaDoor
open Go.RowKit
theorem Sl.made (w : World) (R : Nat) (hR : R ≤ w.heap.size) :
    Sl (w.alloc (.cells #[.int .i64 0, .int .i64 0, .int .i64 0, .int .i64 0, .int .i64 0, .int .i64 0, .int .i64 0, .int .i64 0, .int .i64 (-1), .int .i64 0, .slice none 0 0, .slice none 0 0, .int .i64 (-1)] layT)) R w.heap.size (.slice none 0 0) (.slice none 0 0) ps0 :=
  ⟨heap_alloc_new w _, hR, World.ownsRow_nil _ _ _ _, World.ownsRow_nil _ _ _ _, .inl rfl⟩
def outCells (v : Value) : Array Value := #[.int .i64 0, .int .i64 0, v, .int .i64 0]
/-- the answer under way: its block and the row of slots. -/
structure Out (w : World) (R b : Nat) (v : Value) (sl : List Nat) : Prop where
  row : w.heap[b]? = some (.cells (outCells v) 26 (0, 0))
  rb : R ≤ b
  slots : w.ownsRow R slotT 1 v sl.length (slotCells sl)
theorem Out.cells {w : World} {R b : Nat} {v : Value} {sl : List Nat} (h : Out w R b v sl) : w.cell? ⟨b, 0, none⟩ = some (.int .i64 0) ∧ w.cell? ⟨b, 1, none⟩ = some (.int .i64 0) ∧ w.cell? ⟨b, 2, none⟩ = some v ∧ w.cell? ⟨b, 3, none⟩ = some (.int .i64 0) := cells4 h.row
theorem Out.drew {w : World} {R b : Nat} {v : Value} {sl : List Nat} (h : Out w R b v sl) : Out w.drew R b v sl := ⟨h.row, h.rb, h.slots⟩
theorem Out.below {w w' : World} {R b : Nat} {v : Value} {sl : List Nat} (h : Out w R b v sl) (hb : Below w.heap.size w w') : Out w' R b v sl :=
  ⟨(hb.block b (row_lt h.row)).trans h.row, h.rb, h.slots.kept (row := none) ⟨hb.os, hb.tape, hb.output, hb.size, fun k hk _ => hb.block k hk⟩ (by cases hv : v.ownBlock <;> simp)⟩
theorem Out.alloc {w : World} {R b : Nat} {v : Value} {sl : List Nat} (h : Out w R b v sl) (o : Obj) : Out (w.alloc o) R b v sl := h.below ((Below.refl _ _).alloc (Nat.le_refl _) o)
/-- a field was laid out: the answer stays. -/
theorem Out.kept {w w' : World} {R b g : Nat} {v v1 v2 : Value} {sl : List Nat} {s : PS} (h : Out w R b v sl) (hs : Sl w R g v1 v2 s) (hb : Below R w w') (hf : FrS g v1 v2 w w') : Out w' R b v sl := by
  have hbg : b ≠ g := by
    rintro rfl
    have h1 := hs.row
    rw [h.row] at h1
    injection h1 with h1
    injection h1 with _ ht
    exact absurd ht (by decide)
  refine ⟨(hf.2 b (row_lt h.row) hbg (fun e => own_ne_blk hs.place h.row (by decide) e.symm) (fun e => own_ne_blk hs.scale h.row (by decide) e.symm)).trans h.row, h.rb, ?_⟩
  refine ⟨h.slots.1, ?_⟩
  rcases h.slots.2 with hn | ⟨x, cap, cur, rfl, hx, hr, rest⟩
  · exact .inl hn
  · refine .inr ⟨x, cap, cur, rfl, hx, ?_, rest⟩
    refine (hf.2 x (row_lt hr) ?_ (fun e => own_ne_blk hs.place hr (by decide) e.symm) (fun e => own_ne_blk hs.scale hr (by decide) e.symm)).trans hr
    rintro rfl
    have h1 := hs.row
    rw [hr] at h1
    injection h1 with h1
    injection h1 with _ ht
    exact absurd ht (by decide)
theorem Out.grown_row {w w6 : World} {R b : Nat} {v : Value} {sl : List Nat} {o : Obj} (h : Out w R b v sl) (hg : (w.alloc o).grownBy w6 v.ownBlock) : w6.heap[b]? = some (.cells (outCells v) 26 (0, 0)) :=
  (hg.block b (by have := row_lt h.row; simp; omega) (fun e => own_ne_blk h.slots h.row (by decide) e.symm)).trans (h.alloc o).row
theorem Out.done {w w6 : World} {R b g : Nat} {v v' v1 v2 : Value} {sl : List Nat} {s : PS} {o : Obj} {a : Nat} (h : Out w R b v sl) (hs : Sl w R g v1 v2 s) (hg : (w.alloc o).grownBy w6 v.ownBlock) (hv : w6.ownsRow R slotT 1 v' (sl.length + 1) (slotCells sl ++ [.int .i64 (a : Int)])) :
    Out (w6.setCell ⟨b, 2, none⟩ v') R b v' (sl ++ [a]) ∧ Sl (w6.setCell ⟨b, 2, none⟩ v') R g v1 v2 s ∧ Below R w (w6.setCell ⟨b, 2, none⟩ v') := by
  have hrow := h.grown_row hg
  have hst := grown_set w6 b 2 v'
  have hgn : w.grownBy w6 v.ownBlock := (World.grownBy_alloc w o _).trans hg
  have hbg : g ≠ b := by
    rintro rfl
    have h1 := hs.row
    rw [h.row] at h1
    injection h1 with h1
    injection h1 with _ ht
    exact absurd ht (by decide)
  have hp : w6.ownsRow R intT 1 v1 s.shared.length (placeCells s.shared) := by
    refine hs.place.kept hgn ?_
    cases hb : v.ownBlock with
    | none => cases hv1 : v1.ownBlock <;> simp
    | some x => exact .inr (own_not_block hs.place h.slots (by decide) hb)
  have hsc : w6.ownsRow R intT 1 v2 s.shared.length (scaleCells s.shared) := by
    refine hs.scale.kept hgn ?_
    cases hb : v.ownBlock with
    | none => cases hv1 : v2.ownBlock <;> simp
    | some x => exact .inr (own_not_block hs.scale h.slots (by decide) hb)
  have hr6 : w6.heap[g]? = some (.cells (layCells s v1 v2) layT (0, 0)) := (hgn.block g hs.lt (fun e => own_ne_blk h.slots hs.row (by decide) e.symm)).trans hs.row
  refine ⟨⟨?_, h.rb, ?_⟩, ⟨?_, hs.rg, hp.kept hst (.inr (own_ne_blk hp hrow (by decide))), hsc.kept hst (.inr (own_ne_blk hsc hrow (by decide))), hs.ne⟩, ?_⟩
  · rw [row_set hrow]; rfl
  · rw [slotCells_snoc, List.length_append]
    exact hv.kept hst (.inr (own_ne_blk hv hrow (by decide)))
  · exact (hst.block g (row_lt hr6) (fun e => hbg (by injection e))).trans hr6
  · exact (grown_below hs.rs h.slots hg).setCell (p := ⟨b, 2, none⟩) h.rb _
/-- what l7Layout answers, of fields that are ok. -/
def SLayP (l : List Fld) (w : World) (e : Ending) (w' : World) : Prop :=
  ∃ v1, e = .returned (layV l v1) ∧ w'.ownsRow w.heap.size slotT 1 v1 l.length (slotCells (layF l ps0).1) ∧ Below w.heap.size w w'
set_option maxHeartbeats 8000000 in
set_option maxRecDepth 100000 in
theorem l7Layout_any (A : Option Addr) (c : Nat) (l : List Fld) (w : World) (h1w : 1 < w.heap.size) (h : Flds w A l) (hok : fldsOk l = true) :
    Calls Tryd.prog 28 #[.slice A l.length c] w (SLayP l w) := by
  obtain ⟨i0, hi, hz0, hz1, hz2⟩ := info_parts infoSlot
  have HF := Lib.hid h
  have HOK := Lib.hid hok
  have hl12 := fldsOk_len hok
  have HK := Lib.hid (heap_alloc_new w (.cells #[.int .i64 0, .int .i64 0, .slice none 0 0, .int .i64 0] 26))
  have hal : Below (w.heap.size + 1) (w.alloc (.cells #[.int .i64 0, .int .i64 0, .slice none 0 0, .int .i64 0] 26)) (w.alloc (.cells #[.int .i64 0, .int .i64 0, .slice none 0 0, .int .i64 0] 26)) := Below.refl _ _
  have hsl := (Sl.made (w.alloc (.cells #[.int .i64 0, .int .i64 0, .slice none 0 0, .int .i64 0] 26)) (w.heap.size + 1) (by simp)).alloc (.cells #[.int .i64 0, .int .i64 0, .slice none 0 0, .int .i64 0] 26)
  rw [show (w.alloc (.cells #[.int .i64 0, .int .i64 0, .slice none 0 0, .int .i64 0] 26)).heap.size = w.heap.size + 1 by simp] at hsl
  have HSL := Lib.hid hsl
  clear h hok hsl hal
  go_enter Tryd.func28, Tryd.ntmps28
  go_wp2
  go_loopw [5] (fun i wr => ∃ k : Nat, i = .int .i64 k ∧ k ≤ l.length ∧ Hid (∃ v v1 v2, Out wr (w.heap.size + 1) (w.heap.size + 1 + 1) v (layF (l.take k) ps0).1 ∧ Sl wr (w.heap.size + 1) (w.heap.size + 1) v1 v2 (layF (l.take k) ps0).2) ∧ Hid (Below (w.heap.size + 1) (w.alloc (.cells #[.int .i64 0, .int .i64 0, .slice none 0 0, .int .i64 0] 26)) wr)) (fun i _ => l.length - (intOf i).toNat)
  case atStart =>
    refine ⟨0, rfl, by omega, Lib.hid ⟨.slice none 0 0, _, _, ⟨?_, by omega, World.ownsRow_nil _ _ _ _⟩, HSL.out⟩, Lib.hid (((Below.refl _ _).alloc (by simp) _).alloc (by simp) _)⟩
    have := heap_alloc_new ((w.alloc (.cells #[.int .i64 0, .int .i64 0, .slice none 0 0, .int .i64 0] 26)).alloc (.cells #[.int .i64 0, .int .i64 0, .int .i64 0, .int .i64 0, .int .i64 0, .int .i64 0, .int .i64 0, .int .i64 0, .int .i64 (-1), .int .i64 0, .slice none 0 0, .slice none 0 0, .int .i64 (-1)] layT)) (.cells #[.int .i64 0, .int .i64 0, .slice none 0 0, .int .i64 0] 26)
    rw [show ((w.alloc (.cells #[.int .i64 0, .int .i64 0, .slice none 0 0, .int .i64 0] 26)).alloc (.cells #[.int .i64 0, .int .i64 0, .int .i64 0, .int .i64 0, .int .i64 0, .int .i64 0, .int .i64 0, .int .i64 0, .int .i64 (-1), .int .i64 0, .slice none 0 0, .slice none 0 0, .int .i64 (-1)] layT)).heap.size = w.heap.size + 1 + 1 by simp] at this
    exact this
  case round =>
    obtain ⟨k, rfl, hk, HP, HB⟩ := hrel
    by_cases hlt2 : k < l.length
    · obtain ⟨x, rfl, hxb, hx⟩ := HF.out.at2 hlt2
      have hx2 := (hx.below ((Below.refl w.heap.size w).alloc (Nat.le_refl _) (.cells #[.int .i64 0, .int .i64 0, .slice none 0 0, .int .i64 0] 26)) (by rw [addr_block]; exact hxb)).below HB.out (by rw [addr_block]; omega)
      have hsz := fldsOk_at HOK.out k hlt2
      have HTK := Lib.hid (lay_take l k hlt2)
      have HBD := Lib.hid (lay_pbd l k hk)
      have HLEN := Lib.hid (lay_len l k hk)
      obtain ⟨v, v1, v2, ho, hs⟩ := HP.out
      generalize (layF (l.take k) ps0).2 = s at ho hs HTK HBD
      generalize (layF (l.take k) ps0).1 = sl at ho hs HTK HLEN
      generalize l[k] = f at hx2 hsz HTK
      obtain ⟨z, fc, el⟩ := f
      obtain ⟨c0, c1, c2⟩ := hx2
      obtain ⟨hz1', hz6'⟩ := hsz
      have hA2 := ho.cells.2.2.1
      have hsll : sl.length ≤ 12 := by have := HLEN.out; omega
      obtain ⟨A1, cp1, rfl⟩ := own_slice2 ho.slots
      have HO := Lib.hid ho
      have HS := Lib.hid hs
      have hk12 : k ≤ 12 := by omega
      have h1R : 1 < w.heap.size + 1 := by omega
      have hwr := hs.rs
      have hlo := row_lt ho.row
      clear hx hxb ho hs
      go_wp2
      go_region_law (first
        | (go_simp; go_at_call 44; refine (field_any (w.heap.size + 1) (w.heap.size + 1) k v1 v2 s h1R HBD.out hk12 z fc el hz1' hz6' _ (by first | exact HS.out | exact HS.out.drew)).mono ?_; rintro e w5 ⟨v1', v2', rfl, hs5, hb5, hf5⟩; have HO5 : Hid (Out w5 (w.heap.size + 1) (w.heap.size + 1 + 1) (.slice A1 sl.length cp1) sl) := (by first | exact Lib.hid (HO.out.kept HS.out hb5 hf5) | exact Lib.hid (HO.out.drew.kept HS.out.drew hb5 hf5)); have d2 := HO5.out.cells.2.2.1; have d2a := (fun o => (HO5.out.alloc o).cells.2.2.1); have hr5 := hs5.rs; have hlo5 := row_lt HO5.out.row; have HS5 := Lib.hid hs5; have HB5 := Lib.hid hb5; clear hs5 hb5 hf5)
        | (refine step_append_own rfl (.tmp 16) (.tmp 24) 24 rfl (w.heap.size + 1) slotT i0 (.agg #[.int .i64 0]) 1 8 Tryd.underlying24 hi hz0 hz1 hz2 rfl (by decide) (.slice A1 sl.length cp1) sl.length _ (by simp [Act.eval]) (HO5.out.slots.alloc _) ⟨w5.heap.size, 0, none⟩ 1 1 [_] (by simp [Act.eval]) rfl (cell_one_new _ _ _) (by simp [Value.oneCell']) (by unfold maxLen; omega) (by omega) (by simp; omega) ?_; intro v' w6 hown6 hgrow6; obtain ⟨A', cap', rfl⟩ := own_slice2 hown6.out; have r6 := HO5.out.grown_row hgrow6.out; have f6' := row_free r6 2; have c6' : w6.cell? ⟨w.heap.size + 1 + 1, 2, none⟩ = some (.slice A1 sl.length cp1) := (by rw [cell_of_row _ _ _ _ _ _ r6]; rfl); clear r6))
      all_goals
        have hdn := HO5.out.done (a := (placeF ⟨z, fc, el⟩ s).1) HS5.out hgrow6.out hown6.out
        have HPD := Lib.hid hdn.1
        have HSD := Lib.hid hdn.2.1
        have HBN := Lib.hid (HB.out.trans ((drew_below _ _).trans (HB5.out.trans hdn.2.2)))
        clear hdn hown6 hgrow6 d2 d2a f6' c6' hA2
        go_wp2
        go_roundw
        case rel => exact ⟨k + 1, by go_num, by omega, by rw [HTK.out]; exact Lib.hid ⟨_, _, _, HPD.out, HSD.out⟩, HBN⟩
        case measure => simp [intOf]; omega
    · obtain rfl : k = l.length := by omega
      have hkw : wr.heap[w.heap.size]? = some (.cells #[.int .i64 0, .int .i64 0, .slice none 0 0, .int .i64 0] 26 (0, 0)) := (HB.out.block w.heap.size (by omega)).trans (heap_alloc_new _ _)
      have htl : l.take l.length = l := List.take_of_length_le (Nat.le_refl _)
      rw [htl] at HP
      obtain ⟨v, v1, v2, ho, hs⟩ := HP.out
      obtain ⟨o0, o1, o2, o3⟩ := ho.cells
      obtain ⟨p0, p1, -, -, -, -, -, -, p8, -⟩ := hs.cells
      have hv := ho.slots
      rw [lay_length] at hv
      obtain ⟨A1, cp1, rfl⟩ := own_slice2 hv
      have fo := row_free ho.row
      obtain ⟨g0, g1, g2, g3⟩ := cells4 hkw
      have fz := row_free hkw
      have hltw := row_lt hkw
      have HKW := Lib.hid hkw
      have HV := Lib.hid hv
      have HOR := Lib.hid ho.row
      have HSR := Lib.hid hs.row
      clear ho hs hkw hv htl
      go_wp2
      obtain ⟨w3, hw3⟩ : ∃ w3, w3 = (((wr.setCell ⟨w.heap.size + 1 + 1, 0, none⟩ (.int .i64 ((layF l ps0).2.ls.words : Int))).setCell ⟨w.heap.size + 1 + 1, 1, none⟩ (.int .i64 ((layF l ps0).2.ptrs : Int))).setCell ⟨w.heap.size + 1 + 1, 3, none⟩ (.int .i64 (layF l ps0).2.tag)) := ⟨_, rfl⟩
      have hg3 : wr.grownBy w3 (some (w.heap.size + 1 + 1)) := by rw [hw3]; exact grown_trans (grown_trans (grown_set _ _ 0 _) (grown_set _ _ 1 _)) (grown_set _ _ 3 _)
      rw [← hw3]
      have hk3 : w3.heap[w.heap.size]? = some (.cells #[.int .i64 0, .int .i64 0, .slice none 0 0, .int .i64 0] 26 (0, 0)) := (hg3.block _ hltw (fun e => by injection e; omega)).trans HKW.out
      obtain ⟨wf, e, hr, hg⟩ := store4 hk3 (.int .i64 ((layF l ps0).2.ls.words : Int)) (.int .i64 ((layF l ps0).2.ptrs : Int)) (.slice A1 l.length cp1) (.int .i64 (layF l ps0).2.tag)
      rw [e]
      obtain ⟨r0, r1, r2, r3⟩ := cells4 hr
      refine bodyPost_ret (v := layV l (.slice A1 l.length cp1)) (by simp [results, Tryd.results28, go_sem, r0, r1, r2, r3, layV]) rfl ⟨_, rfl, ?_, ?_⟩
      · have h3 := HV.out.kept hg3 (.inr (own_ne_blk HV.out HOR.out (by decide)))
        exact (own_weak h3 (Nat.le_succ _)).kept hg (.inr (own_ne_blk h3 hk3 (by decide)))
      · have hb3 : Below w.heap.size w w3 := grown_below_b (((Below.refl w.heap.size w).alloc (Nat.le_refl _) _).trans (HB.out.mono (Nat.le_succ _))) hg3 (by omega) (Nat.le_of_lt hltw)
        exact grown_below_b hb3 hg (Nat.le_refl _) (Nat.le_of_lt (row_lt hk3))
end Go.Proofs.YtfgebmmnlneciaaDoor
