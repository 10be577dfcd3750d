/- The program's LayoutOf: the walk. -/
import Derived.Test.YtfgebmmnlneciaaDoorLayI
namespace Go.Proofs.YtfgebmmnlneciaaDoor
open Go.RowKit
set_option maxHeartbeats 8000000 in
set_option maxRecDepth 100000 in
theorem implLayoutOf_any (A : Option Addr) (c : Nat) (l : List Fld) (w : World) (ht : Tab w) (h1w : 1 < w.heap.size) (h : Flds w A l) (hl : l.length ≤ 10000000) :
    Calls Tryd.prog 14 #[.slice A l.length c] w (LayP l w) := by
  have hmm := @run_makeMap Tryd.prog
  obtain ⟨i0, hi, hz0, hz1, hz2⟩ := info_parts infoSlot
  have hal : Below w.heap.size w (w.alloc (.cells #[.int .i64 0, .int .i64 0, .slice none 0 0, .int .i64 0] 26)) := (Below.refl _ _).alloc (Nat.le_refl _) _
  have HF := Lib.hid (h.below hal)
  have HT := Lib.hid ht
  have HAL := Lib.hid hal
  have HFO := Lib.hid (implFieldsOk_any A c l _ HF.out hl)
  clear h ht hal
  cases hok : fldsOk l with
  | false =>
    rw [hok] at HFO
    have HOK := Lib.hid hok
    clear hok
    go_enter Tryd.func14, Tryd.ntmps14
    go_wp2_with fail
    refine HFO.out.mono ?_
    rintro e w1 ⟨rfl, hb1⟩
    have k0 : w1.heap[w.heap.size]? = some (.cells #[.int .i64 0, .int .i64 0, .slice none 0 0, .int .i64 0] 26 (0, 0)) := (hb1.block w.heap.size (by simp)).trans (heap_alloc_new _ _)
    obtain ⟨g0, g1, g2, g3⟩ := cells4 k0
    have fz := row_free k0
    have hlt := row_lt k0
    have HB1 := Lib.hid (HAL.out.trans (hb1.mono (by simp)))
    have HK := Lib.hid k0
    clear hb1 k0
    go_wp2
    obtain ⟨wf, e, hr, hg⟩ := store4 HK.out (.int .i64 0) (.int .i64 0) (.slice none 0 0) (.int .i64 0)
    rw [e]
    obtain ⟨r0, r1, r2, r3⟩ := cells4 hr
    refine bodyPost_ret (v := .tuple #[.agg #[.int .i64 0, .int .i64 0, .slice none 0 0, .int .i64 0], .bool false]) (by simp [results, Tryd.results14, go_sem, r0, r1, r2, r3]) rfl (.inr ⟨HOK.out, rfl, ?_⟩)
    exact grown_below_b HB1.out hg (Nat.le_refl _) (Nat.le_of_lt hlt)
  | true =>
    rw [hok] at HFO
    have HOK := Lib.hid hok
    clear hok
    have hl12 := fldsOk_len HOK.out
    go_enter Tryd.func14, Tryd.ntmps14
    go_wp2_with fail
    refine HFO.out.mono ?_
    rintro e w1 ⟨rfl, hb1⟩
    have k0 : w1.heap[w.heap.size]? = some (.cells #[.int .i64 0, .int .i64 0, .slice none 0 0, .int .i64 0] 26 (0, 0)) := (hb1.block w.heap.size (by simp)).trans (heap_alloc_new _ _)
    have hlt := row_lt k0
    have HB1 := Lib.hid (HAL.out.trans (hb1.mono (by simp)))
    have HK := Lib.hid k0
    have hB1 : (w.alloc (.cells #[.int .i64 0, .int .i64 0, .slice none 0 0, .int .i64 0] 26)).heap.size = w.heap.size + 1 := by simp
    have HBW := Lib.hid hb1
    have HZ := Lib.hid hB1
    have HM := Lib.hid (Pl.made w1 (w.heap.size + 1) (by omega))
    have hbp : Below (w.heap.size + 1) (w.alloc (.cells #[.int .i64 0, .int .i64 0, .slice none 0 0, .int .i64 0] 26)) ((w1.alloc (.map #[] 0)).alloc (.cells #[.int .i64 0, .int .i64 0, .slice none 0 0, .int .i64 (-1), .map (some w1.heap.size), .int .i64 0, .slice none 0 0, .int .i64 (-1)] planT)) := (((hB1 ▸ hb1 : Below (w.heap.size + 1) _ w1)).alloc (by omega) _).alloc (by simp; omega) _
    have HBP := Lib.hid hbp
    clear hb1 k0 hbp hB1
    go_wp2
    go_loopw [17] (fun i wr => ∃ k : Nat, i = .int .i64 k ∧ k ≤ l.length ∧ Hid (∃ v1 v2, Pl wr (w.heap.size + 1) (w1.heap.size + 1) w1.heap.size v1 v2 (layF (l.take k) ps0).2 (layF (l.take k) ps0).1 (12 * k)) ∧ Hid (Below (w.heap.size + 1) (w.alloc (.cells #[.int .i64 0, .int .i64 0, .slice none 0 0, .int .i64 0] 26)) wr)) (fun i _ => l.length - (intOf i).toNat)
    case atStart => exact ⟨0, rfl, by omega, by exact Lib.hid ⟨_, _, HM.out⟩, by exact HBP⟩
    case round =>
      obtain ⟨k, rfl, hk, HP, HB⟩ := hrel
      by_cases hlt2 : k < l.length
      · obtain ⟨x, rfl, hxb, hx⟩ := HF.out.at2 hlt2
        have hx2 := hx.below HB.out (by rw [addr_block]; have := HZ.out; omega)
        have hsz := fldsOk_at HOK.out k hlt2
        have HTK := Lib.hid (lay_take l k hlt2)
        have HBD := Lib.hid (lay_pbd l k hk)
        have HLEN := Lib.hid (lay_len l k hk)
        obtain ⟨v1, v2, hp⟩ := HP.out
        generalize (layF (l.take k) ps0).2 = s at hp HTK HBD
        generalize (layF (l.take k) ps0).1 = sl at hp HTK HLEN
        generalize l[k] = f at hx2 hsz HTK
        obtain ⟨z, fc, el⟩ := f
        obtain ⟨c0, c1, c2⟩ := hx2
        obtain ⟨hz1', hz6'⟩ := hsz
        have hpa := hp.alloc (.cells #[.int .i64 z, .bool fc, .int .i64 el] 43)
        have hba := HB.out.alloc hp.rs (.cells #[.int .i64 z, .bool fc, .int .i64 el] 43)
        have HPA := Lib.hid hpa
        have HTA := Lib.hid (HT.out.below (R := w.heap.size) (HAL.out.trans (hba.mono (by omega))) h1w)
        have hA2 := hpa.cells.2.2.1
        have HBA := Lib.hid hba
        have hsll : sl.length ≤ 12 := by have := HLEN.out; omega
        have hpr := hpa.rs
        obtain ⟨A1, cp1, rfl⟩ := own_slice2 hp.slots
        have hN12 : 12 * k ≤ 900 := by omega
        have hk12 : k ≤ 12 := by omega
        have h1R : 1 < w.heap.size + 1 := by omega
        clear hx hxb hp hpa hba
        go_wp2
        go_region_law (first
          | (go_simp; go_at_call 30; refine (place_any (w.heap.size + 1) (w1.heap.size + 1) w1.heap.size k _ v2 s sl (12 * k) hN12 h1R HBD.out hk12 z fc el hz1' hz6' _ (by first | exact HTA.out | exact HTA.out.drew) (by first | exact HPA.out | exact HPA.out.drew)).mono ?_; rintro e w5 ⟨v2', rfl, hp5, hb5⟩; have d2 := hp5.cells.2.2.1; have d2a := (fun o => (hp5.alloc o).cells.2.2.1); have hr5 := hp5.rs; have HP5 := Lib.hid hp5; have HB5 := Lib.hid hb5; clear hp5 hb5)
          | (refine step_append_own rfl (.tmp 26) (.tmp 31) 24 rfl (w.heap.size + 1) slotT i0 (.agg #[.int .i64 0]) 1 8 Tryd.underlying24 hi hz0 hz1 hz2 rfl (by decide) (.slice A1 sl.length cp1) sl.length _ (by simp [Act.eval]) (HP5.out.slots.alloc _) ⟨w5.heap.size, 0, none⟩ 1 1 [_] (by simp [Act.eval]) rfl (cell_one_new _ _ _) (by simp [Value.oneCell']) (by unfold maxLen; omega) (by omega) (by simp; omega) ?_; intro v' w6 hown6 hgrow6; obtain ⟨A', cap', rfl⟩ := own_slice2 hown6.out; have r6 := HP5.out.grown_row HP5.out.slots (by decide) hgrow6.out; have f6' := row_free r6 2; have c6' : w6.cell? ⟨w1.heap.size + 1, 2, none⟩ = some (.slice A1 sl.length cp1) := (by rw [cell_of_row _ _ _ _ _ _ r6]; rfl); clear r6))
        all_goals
          have hdn := HP5.out.slot_done (a := (placeF ⟨z, fc, el⟩ s).1) hgrow6.out hown6.out
          have HPD := Lib.hid hdn.1
          have HBN := Lib.hid (HBA.out.trans ((drew_below _ _).trans (HB5.out.trans hdn.2)))
          clear hdn hown6 hgrow6 d2 d2a f6' c6' hA2
          go_wp2
          go_roundw
          case rel => exact ⟨k + 1, by go_num, by omega, by rw [HTK.out]; exact Lib.hid ⟨_, _, HPD.out.mono (by omega)⟩, HBN⟩
          case measure => simp [intOf]; omega
      · obtain rfl : k = l.length := by omega
        have hkw : wr.heap[w.heap.size]? = some (.cells #[.int .i64 0, .int .i64 0, .slice none 0 0, .int .i64 0] 26 (0, 0)) := (HB.out.block w.heap.size (by omega)).trans (heap_alloc_new _ _)
        have htl : l.take l.length = l := List.take_of_length_le (Nat.le_refl _)
        rw [htl] at HP
        obtain ⟨v1, v2, hp⟩ := HP.out
        obtain ⟨p0, p1, p2, p3, -⟩ := hp.cells
        obtain ⟨A1, cp1, rfl⟩ := own_slice2 hp.slots
        obtain ⟨g0, g1, g2, g3⟩ := cells4 hkw
        have fz := row_free hkw
        have hltw := row_lt hkw
        have HKW := Lib.hid hkw
        have hv := hp.slots
        rw [lay_length] at hv p2
        have HV := Lib.hid hv
        have hll := lay_length l ps0
        clear hp hkw hv htl
        go_wp2
        obtain ⟨wf, e, hr, hg⟩ := store4 HKW.out (.int .i64 ((layF l ps0).2.ls.words : Int)) (.int .i64 ((layF l ps0).2.ptrs : Int)) (.slice A1 l.length cp1) (.int .i64 (layF l ps0).2.tag)
        rw [e]
        obtain ⟨r0, r1, r2, r3⟩ := cells4 hr
        refine bodyPost_ret (v := .tuple #[layV l (.slice A1 l.length cp1), .bool true]) (by simp [results, Tryd.results14, go_sem, r0, r1, r2, r3, layV]) rfl (.inl ⟨HOK.out, _, rfl, ?_, ?_⟩)
        · exact (own_weak HV.out (Nat.le_succ _)).kept hg (.inr (own_ne_blk HV.out HKW.out (by decide)))
        · exact grown_below_b (HAL.out.trans (HB.out.mono (by omega))) hg (Nat.le_refl _) (Nat.le_of_lt hltw)
end Go.Proofs.YtfgebmmnlneciaaDoor
