/- Texts of the proof of the law FnExactRecordGet, side by side: part 8. -/
import Derived.Deep.RegionHeld3
import Derived.Test.YtehhbbdaeonebaaGreatDoorMExactRecordGet07
set_option maxHeartbeats 8000000
set_option maxRecDepth 100000
namespace Go.Proofs.YtehhbbdaeonebaaGreatDoor
open Go.RowKit
theorem implLayoutOf_any (A : Option Addr) (c : Nat) (l : List Fld) (w : World) (ht : Tab w) (h1w : 2 < w.heap.size) (h : Flds w A l) (hl : l.length ≤ 10000000) :
 Calls Tryz.prog 63 #[.slice A l.length c] w (LayP l w) := by
 have hmm := @run_makeMap Tryz.prog
 obtain ⟨i0, hi, hz0, hz1, hz2⟩ := info_parts infoSlot
 have hal : Below w.heap.size w (w.alloc (.cells #[.int .i64 0, .int .i64 0, .slice none 0 0, .int .i64 0] 59)) := (Below.refl _ _).alloc (Nat.le_refl _) _
 have HF := Lib.hid (h.below hal)
 have HT := Lib.hid ht
 have HAL := Lib.hid hal
 have HFO := Lib.hid (implFieldsOk_any A c l _ HF.out hl)
 clear h ht hal
 cases hok : fldsOk l with
 | false =>
  rw [hok] at HFO
  have HOK := Lib.hid hok
  clear hok
  go_enter Tryz.func63, Tryz.ntmps63
  go_wp2_with fail
  refine HFO.out.mono ?_
  rintro e w1 ⟨rfl, hb1⟩
  have k0 : w1.heap[w.heap.size]? = some (.cells #[.int .i64 0, .int .i64 0, .slice none 0 0, .int .i64 0] 59 (0, 0)) := (hb1.block w.heap.size (by simp)).trans (heap_alloc_new _ _)
  obtain ⟨g0, g1, g2, g3⟩ := cells4 k0
  have fz := row_free k0
  have hlt := row_lt k0
  have HB1 := Lib.hid (HAL.out.trans (hb1.mono (by simp)))
  have HK := Lib.hid k0
  clear hb1 k0
  go_wp2
  obtain ⟨wf, e, hr, hg⟩ := store4 HK.out (.int .i64 0) (.int .i64 0) (.slice none 0 0) (.int .i64 0)
  rw [e]
  obtain ⟨r0, r1, r2, r3⟩ := cells4 hr
  refine bodyPost_ret (v := .tuple #[.agg #[.int .i64 0, .int .i64 0, .slice none 0 0, .int .i64 0], .bool false]) (by simp [results, Tryz.results63, go_sem, r0, r1, r2, r3]) rfl (.inr ⟨HOK.out, rfl, ?_⟩)
  exact grown_below_b HB1.out hg (Nat.le_refl _) (Nat.le_of_lt hlt)
 | true =>
  rw [hok] at HFO
  have HOK := Lib.hid hok
  clear hok
  have hl12 := fldsOk_len HOK.out
  go_enter Tryz.func63, Tryz.ntmps63
  go_wp2_with fail
  refine HFO.out.mono ?_
  rintro e w1 ⟨rfl, hb1⟩
  have k0 : w1.heap[w.heap.size]? = some (.cells #[.int .i64 0, .int .i64 0, .slice none 0 0, .int .i64 0] 59 (0, 0)) := (hb1.block w.heap.size (by simp)).trans (heap_alloc_new _ _)
  have hlt := row_lt k0
  have HB1 := Lib.hid (HAL.out.trans (hb1.mono (by simp)))
  have HK := Lib.hid k0
  have hB1 : (w.alloc (.cells #[.int .i64 0, .int .i64 0, .slice none 0 0, .int .i64 0] 59)).heap.size = w.heap.size + 1 := by simp
  have HBW := Lib.hid hb1
  have HZ := Lib.hid hB1
  have HM := Lib.hid (Pl.made w1 (w.heap.size + 1) (by omega))
  have hbp : Below (w.heap.size + 1) (w.alloc (.cells #[.int .i64 0, .int .i64 0, .slice none 0 0, .int .i64 0] 59)) ((w1.alloc (.map #[] 0)).alloc (.cells #[.int .i64 0, .int .i64 0, .slice none 0 0, .int .i64 (-1), .map (some w1.heap.size), .int .i64 0, .slice none 0 0, .int .i64 (-1)] planT)) := (((hB1 ▸ hb1 : Below (w.heap.size + 1) _ w1)).alloc (by omega) _).alloc (by simp; omega) _
  have HBP := Lib.hid hbp
  clear hb1 k0 hbp hB1
  go_wp2
  go_loopw [17] (fun i wr => ∃ k : Nat, i = .int .i64 k ∧ k ≤ l.length ∧ Hid (∃ v1 v2, Pl wr (w.heap.size + 1) (w1.heap.size + 1) w1.heap.size v1 v2 (layF (l.take k) ps0).2 (layF (l.take k) ps0).1 (12 * k)) ∧ Hid (Below (w.heap.size + 1) (w.alloc (.cells #[.int .i64 0, .int .i64 0, .slice none 0 0, .int .i64 0] 59)) wr)) (fun i _ => l.length - (intOf i).toNat)
  case atStart => exact ⟨0, rfl, by omega, by exact Lib.hid ⟨_, _, HM.out⟩, by exact HBP⟩
  case round =>
   obtain ⟨k, rfl, hk, HP, HB⟩ := hrel
   by_cases hlt2 : k < l.length
   · obtain ⟨x, rfl, hxb, hx⟩ := HF.out.at2 hlt2
     have hx2 := hx.below HB.out (by rw [addr_block]; have := HZ.out; omega)
     have hsz := fldsOk_at HOK.out k hlt2
     have HTK := Lib.hid (lay_take l k hlt2)
     have HBD := Lib.hid (lay_pbd l k hk)
     have HLEN := Lib.hid (lay_len l k hk)
     obtain ⟨v1, v2, hp⟩ := HP.out
     generalize (layF (l.take k) ps0).2 = s at hp HTK HBD
     generalize (layF (l.take k) ps0).1 = sl at hp HTK HLEN
     generalize l[k] = f at hx2 hsz HTK
     obtain ⟨z, fc, el⟩ := f
     obtain ⟨c0, c1, c2⟩ := hx2
     obtain ⟨hz1', hz6'⟩ := hsz
     have hpa := hp.alloc (.cells #[.int .i64 z, .bool fc, .int .i64 el] 62)
     have hba := HB.out.alloc hp.rs (.cells #[.int .i64 z, .bool fc, .int .i64 el] 62)
     have HPA := Lib.hid hpa
     have HTA := Lib.hid (HT.out.below (R := w.heap.size) (HAL.out.trans (hba.mono (by omega))) h1w)
     have hA2 := hpa.cells.2.2.1
     have HBA := Lib.hid hba
     have hsll : sl.length ≤ 12 := by have := HLEN.out; omega
     have hpr := hpa.rs
     obtain ⟨A1, cp1, rfl⟩ := own_slice2 hp.slots
     have hN12 : 12 * k ≤ 900 := by omega
     have hk12 : k ≤ 12 := by omega
     have h1R : 2 < w.heap.size + 1 := by omega
     clear hx hxb hp hpa hba
     go_wp2
     go_region_law (first
      | (go_simp; go_at_call 83; refine (place_any (w.heap.size + 1) (w1.heap.size + 1) w1.heap.size k _ v2 s sl (12 * k) hN12 h1R HBD.out hk12 z fc el hz1' hz6' _ (by first | exact HTA.out | exact HTA.out.drew) (by first | exact HPA.out | exact HPA.out.drew)).mono ?_; rintro e w5 ⟨v2', rfl, hp5, hb5⟩; have d2 := hp5.cells.2.2.1; have d2a := (fun o => (hp5.alloc o).cells.2.2.1); have hr5 := hp5.rs; have HP5 := Lib.hid hp5; have HB5 := Lib.hid hb5; clear hp5 hb5)
      | (refine step_append_own rfl (.tmp 26) (.tmp 31) 57 rfl (w.heap.size + 1) slotT i0 (.agg #[.int .i64 0]) 1 8 Tryz.underlying57 hi hz0 hz1 hz2 rfl (by decide) (.slice A1 sl.length cp1) sl.length _ (by simp [Act.eval]) (HP5.out.slots.alloc _) ⟨w5.heap.size, 0, none⟩ 1 1 [_] (by simp [Act.eval]) rfl (cell_one_new _ _ _) (by simp [Value.oneCell']) (by unfold maxLen; omega) (by omega) (by simp; omega) ?_; intro v' w6 hown6 hgrow6; obtain ⟨A', cap', rfl⟩ := own_slice2 hown6.out; have r6 := HP5.out.grown_row HP5.out.slots (by decide) hgrow6.out; have f6' := row_free r6 2; have c6' : w6.cell? ⟨w1.heap.size + 1, 2, none⟩ = some (.slice A1 sl.length cp1) := (by rw [cell_of_row _ _ _ _ _ _ r6]; rfl); clear r6))
     all_goals
      have hdn := HP5.out.slot_done (a := (placeF ⟨z, fc, el⟩ s).1) hgrow6.out hown6.out
      have HPD := Lib.hid hdn.1
      have HBN := Lib.hid (HBA.out.trans ((drew_below _ _).trans (HB5.out.trans hdn.2)))
      clear hdn hown6 hgrow6 d2 d2a f6' c6' hA2
      go_wp2
      go_roundw
      case rel => exact ⟨k + 1, by go_num, by omega, by rw [HTK.out]; exact Lib.hid ⟨_, _, HPD.out.mono (by omega)⟩, HBN⟩
      case measure => simp [intOf]; omega
   · obtain rfl : k = l.length := by omega
     have hkw : wr.heap[w.heap.size]? = some (.cells #[.int .i64 0, .int .i64 0, .slice none 0 0, .int .i64 0] 59 (0, 0)) := (HB.out.block w.heap.size (by omega)).trans (heap_alloc_new _ _)
     have htl : l.take l.length = l := List.take_of_length_le (Nat.le_refl _)
     rw [htl] at HP
     obtain ⟨v1, v2, hp⟩ := HP.out
     obtain ⟨p0, p1, p2, p3, -⟩ := hp.cells
     obtain ⟨A1, cp1, rfl⟩ := own_slice2 hp.slots
     obtain ⟨g0, g1, g2, g3⟩ := cells4 hkw
     have fz := row_free hkw
     have hltw := row_lt hkw
     have HKW := Lib.hid hkw
     have hv := hp.slots
     rw [lay_length] at hv p2
     have HV := Lib.hid hv
     have hll := lay_length l ps0
     clear hp hkw hv htl
     go_wp2
     obtain ⟨wf, e, hr, hg⟩ := store4 HKW.out (.int .i64 ((layF l ps0).2.ls.words : Int)) (.int .i64 ((layF l ps0).2.ptrs : Int)) (.slice A1 l.length cp1) (.int .i64 (layF l ps0).2.tag)
     rw [e]
     obtain ⟨r0, r1, r2, r3⟩ := cells4 hr
     refine bodyPost_ret (v := .tuple #[layV l (.slice A1 l.length cp1), .bool true]) (by simp [results, Tryz.results63, go_sem, r0, r1, r2, r3, layV]) rfl (.inl ⟨HOK.out, _, rfl, ?_, ?_⟩)
     · exact (own_weak HV.out (Nat.le_succ _)).kept hg (.inr (own_ne_blk HV.out HKW.out (by decide)))
     · exact grown_below_b (HAL.out.trans (HB.out.mono (by omega))) hg (Nat.le_refl _) (Nat.le_of_lt hltw)
def isRec (n : Nd) : Bool := decide (n.kind ≠ 2) && nodeOk n
theorem isRecord_a (m : Nat) (n : Nd) (h : Hd) (w : World) (S : Nat → Prop) (hn : NdAt w S m n h) (ht : totN m n ≤ 2000000) :
 Calls Tryz.prog 64 #[.agg #[.int .i64 n.kind, .string n.data, .slice h.A n.ptrs.length h.a, .int .i64 n.size, .int .i64 n.count, .slice h.B n.items.length h.b]] w fun e w' => e = .returned (.bool (isRec n)) ∧ Below w.heap.size w w' := by
 have hb0 := (Below.refl w.heap.size w).alloc (Nat.le_refl _) (.cells #[.int .i64 n.kind, .string n.data, .slice h.A n.ptrs.length h.a, .int .i64 n.size, .int .i64 n.count, .slice h.B n.items.length h.b] nodeT)
 have HC := Lib.hid (implNodeOk_a m n h _ S (hn.below hb0) ht)
 have HB0 := Lib.hid hb0
 clear hn ht hb0
 by_cases hk : n.kind = 2
 · have HX : Hid (isRec n = false) := Lib.hid (by unfold isRec; rw [decide_eq_false (by omega)]; rfl)
   have hb : (n.kind != 2) = false := by simp [hk]
   clear hk HC
   go_enter Tryz.func64, Tryz.ntmps64
   go_wp2_with fail
   go_ret
   exact ⟨by rw [HX.out]; rfl, HB0.out⟩
 · have HX : Hid (isRec n = nodeOk n) := Lib.hid (by unfold isRec; rw [decide_eq_true hk, Bool.true_and])
   have hb : (n.kind != 2) = true := by simp [hk]
   generalize nodeOk n = ok at *
   clear hk
   go_enter Tryz.func64, Tryz.ntmps64
   go_wp2_with fail
   refine HC.out.mono ?_
   rintro e w2 ⟨rfl, hb2⟩
   have HB2 := Lib.hid (HB0.out.trans (hb2.mono HB0.out.size))
   clear hb2
   go_wp2
   go_ret
   exact ⟨by rw [HX.out]; rfl, HB2.out⟩
abbrev recT : TypeId := 72
def recB (l : List Fld) (n : Nd) : Bool := fldsOk l && isRec n
def tagL (l : List Fld) : Int := (layF l ps0).2.tag
theorem tagL_bd {l : List Fld} (h : fldsOk l = true) : -1 ≤ tagL l ∧ tagL l < 100 := by
 have h1 := lay_pbd l l.length (Nat.le_refl _)
 rw [List.take_length] at h1
 have h2 := fldsOk_len h
 have h3 := h1.tag
 unfold tagL
 omega
def recV (A : Option Addr) (len c : Nat) (l : List Fld) (v1 : Value) (n : Nd) (h : Hd) : Value :=
 .agg #[.slice A len c, .int .i64 ((layF l ps0).2.ls.words : Int), .int .i64 ((layF l ps0).2.ptrs : Int), v1, .int .i64 (tagL l), .int .i64 n.kind, .string n.data, .slice h.A n.ptrs.length h.a, .int .i64 n.size, .int .i64 n.count, .slice h.B n.items.length h.b]
def zero11 : Value := .agg #[.slice none 0 0, .int .i64 0, .int .i64 0, .slice none 0 0, .int .i64 0, .int .i64 0, .string ⟨#[]⟩, .slice none 0 0, .int .i64 0, .int .i64 0, .slice none 0 0]
theorem own_or_none (v : Value) : v.ownBlock = none ∨ v.ownBlock ≠ none := by
 cases v.ownBlock with
 | none => exact .inl rfl
 | some x => exact .inr (by simp)
def RecByP (l : List Fld) (A : Option Addr) (c : Nat) (n : Nd) (h : Hd) (w : World) (e : Ending) (w' : World) : Prop :=
 (recB l n = true ∧ ∃ v1, e = .returned (.tuple #[recV A l.length c l v1 n h, .bool true]) ∧ w'.ownsRow w.heap.size slotT 1 v1 l.length (slotCells (layF l ps0).1) ∧ Below w.heap.size w w') ∨
 (recB l n = false ∧ e = .returned (.tuple #[zero11, .bool false]) ∧ Below w.heap.size w w')
theorem recordBy_a (A : Option Addr) (c : Nat) (l : List Fld) (m : Nat) (n : Nd) (h : Hd) (w : World) (S : Nat → Prop) (ht : Tab w) (h1w : 2 < w.heap.size) (hl : Flds w A l) (hll : l.length ≤ 10000000) (hn : NdAt w S m n h) (htn : totN m n ≤ 2000000) :
 Calls Tryz.prog 35 #[.slice A l.length c, .agg #[.int .i64 n.kind, .string n.data, .slice h.A n.ptrs.length h.a, .int .i64 n.size, .int .i64 n.count, .slice h.B n.items.length h.b]] w (RecByP l A c n h w) := by
 have hax : (w.alloc (.cells #[.int .i64 n.kind, .string n.data, .slice h.A n.ptrs.length h.a, .int .i64 n.size, .int .i64 n.count, .slice h.B n.items.length h.b] nodeT)).heap.size = w.heap.size + 1 := by simp
 have hbx : Below w.heap.size w ((w.alloc (.cells #[.int .i64 n.kind, .string n.data, .slice h.A n.ptrs.length h.a, .int .i64 n.size, .int .i64 n.count, .slice h.B n.items.length h.b] nodeT)).alloc (.cells #[.slice none 0 0, .int .i64 0, .int .i64 0, .slice none 0 0, .int .i64 0, .int .i64 0, .string { data := #[] }, .slice none 0 0, .int .i64 0, .int .i64 0, .slice none 0 0] recT)) := ((Below.refl _ _).alloc (Nat.le_refl _) _).alloc (by simp) _
 have hg0 : ((w.alloc (.cells #[.int .i64 n.kind, .string n.data, .slice h.A n.ptrs.length h.a, .int .i64 n.size, .int .i64 n.count, .slice h.B n.items.length h.b] nodeT)).alloc (.cells #[.slice none 0 0, .int .i64 0, .int .i64 0, .slice none 0 0, .int .i64 0, .int .i64 0, .string { data := #[] }, .slice none 0 0, .int .i64 0, .int .i64 0, .slice none 0 0] recT)).heap[w.heap.size]? = some (.cells #[.int .i64 n.kind, .string n.data, .slice h.A n.ptrs.length h.a, .int .i64 n.size, .int .i64 n.count, .slice h.B n.items.length h.b] nodeT (0, 0)) := heap_alloc_keep (heap_alloc_new w _) _
 have hg1 : ((w.alloc (.cells #[.int .i64 n.kind, .string n.data, .slice h.A n.ptrs.length h.a, .int .i64 n.size, .int .i64 n.count, .slice h.B n.items.length h.b] nodeT)).alloc (.cells #[.slice none 0 0, .int .i64 0, .int .i64 0, .slice none 0 0, .int .i64 0, .int .i64 0, .string { data := #[] }, .slice none 0 0, .int .i64 0, .int .i64 0, .slice none 0 0] recT)).heap[w.heap.size + 1]? = some (.cells #[.slice none 0 0, .int .i64 0, .int .i64 0, .slice none 0 0, .int .i64 0, .int .i64 0, .string { data := #[] }, .slice none 0 0, .int .i64 0, .int .i64 0, .slice none 0 0] recT (0, 0)) := hax ▸ heap_alloc_new _ _
 have HB0 := Lib.hid hbx
 have HG0 := Lib.hid hg0
 have HG1 := Lib.hid hg1
 have HT := Lib.hid ht
 have HL := Lib.hid hl
 have HN := Lib.hid hn
 have HTN := Lib.hid htn
 clear hbx hg0 hg1 ht hl hn htn hax
 go_enter Tryz.func35, Tryz.ntmps35
 go_wp2_with fail
 generalize ((w.alloc (.cells #[.int .i64 n.kind, .string n.data, .slice h.A n.ptrs.length h.a, .int .i64 n.size, .int .i64 n.count, .slice h.B n.items.length h.b] nodeT)).alloc (.cells #[.slice none 0 0, .int .i64 0, .int .i64 0, .slice none 0 0, .int .i64 0, .int .i64 0, .string { data := #[] }, .slice none 0 0, .int .i64 0, .int .i64 0, .slice none 0 0] recT)) = W at *
 have hsW := HB0.out.size
 refine (implLayoutOf_any A c l W (HT.out.below HB0.out h1w) (by omega) (HL.out.below HB0.out) hll).mono ?_
 intro e w1 hLay
 rcases hLay with ⟨hok, v1, rfl, hown, hb1⟩ | ⟨hok, rfl, hb1⟩
 · obtain ⟨A1, cp1, rfl⟩ := own_slice2 hown
   unfold layV
   have HX0 := Lib.hid (heap_alloc_new w1 (.cells #[.int .i64 ((layF l ps0).2.ls.words : Int), .int .i64 ((layF l ps0).2.ptrs : Int), (.slice A1 l.length cp1), .int .i64 (layF l ps0).2.tag] 59))
   have hb2 := (Below.refl w1.heap.size w1).alloc (Nat.le_refl _) (.cells #[.int .i64 ((layF l ps0).2.ls.words : Int), .int .i64 ((layF l ps0).2.ptrs : Int), (.slice A1 l.length cp1), .int .i64 (layF l ps0).2.tag] 59)
   have hs1 := hb1.size
   have HL0 := Lib.hid (row_lt HG0.out)
   have HL1 := Lib.hid (row_lt HG1.out)
   have hr0 := (hb2.block _ (by have := HL0.out; omega)).trans ((hb1.block _ HL0.out).trans HG0.out)
   have hr1 := (hb2.block _ (by have := HL1.out; omega)).trans ((hb1.block _ HL1.out).trans HG1.out)
   have HR0 := Lib.hid hr0
   have HR1 := Lib.hid hr1
   have HB2 := Lib.hid ((HB0.out.trans (hb1.mono hsW)).trans (hb2.mono (by omega)))
   have HOWN := Lib.hid ((own_weak hown hsW).alloc (.cells #[.int .i64 ((layF l ps0).2.ls.words : Int), .int .i64 ((layF l ps0).2.ptrs : Int), (.slice A1 l.length cp1), .int .i64 (layF l ps0).2.tag] 59))
   obtain ⟨a0, a1, a2, a3, a4, a5⟩ := cells6 hr0
   have HOK := Lib.hid hok
   have HTG : Hid (tagL l = (layF l ps0).2.tag) := Lib.hid rfl
   clear hb1 hb2 hown hr0 hr1 hok
   go_wp2_with fail
   clear a0 a1 a2 a3 a4 a5
   generalize w1.alloc (.cells #[.int .i64 ((layF l ps0).2.ls.words : Int), .int .i64 ((layF l ps0).2.ptrs : Int), (.slice A1 l.length cp1), .int .i64 (layF l ps0).2.tag] 59) = W5 at *
   have HC := Lib.hid (isRecord_a m n h W5 S (HN.out.below HB2.out) HTN.out)
   have hs5 := HB2.out.size
   cases hrec : isRec n
   · have HRF : Hid (recB l n = false) := Lib.hid (by unfold recB; rw [hrec, Bool.and_false])
     rw [hrec] at HC
     clear hrec
     refine HC.out.mono ?_
     rintro e w6 ⟨rfl, hb6⟩
     have HB6 := Lib.hid (HB2.out.trans (hb6.mono hs5))
     have hr := (hb6.block _ (row_lt HR1.out)).trans HR1.out
     have HR := Lib.hid hr
     obtain ⟨z0, z1, z2, z3, z4, z5, z6, z7, z8, z9, z10⟩ := cells11 hr
     have zf := row_free hr
     clear hb6 hr
     go_wp2_with fail
     obtain ⟨wf, hwf, hrw, hbf, -, -⟩ := fin11 (R := w.heap.size) (.slice none 0 0) (.int .i64 0) (.int .i64 0) (.slice none 0 0) (.int .i64 0) (.int .i64 0) (.string ⟨#[]⟩) (.slice none 0 0) (.int .i64 0) (.int .i64 0) (.slice none 0 0) HR.out HB6.out (by omega)
     rw [hwf]
     obtain ⟨e0, e1, e2, e3, e4, e5, e6, e7, e8, e9, e10⟩ := cells11 hrw
     exact bodyPost_ret (v := .tuple #[zero11, .bool false]) (by simp [results, Tryz.results35, go_sem, zero11, e0, e1, e2, e3, e4, e5, e6, e7, e8, e9, e10]) rfl (.inr ⟨HRF.out, rfl, hbf⟩)
   · have HRF : Hid (recB l n = true) := Lib.hid (by unfold recB; rw [hrec, HOK.out]; rfl)
     rw [hrec] at HC
     clear hrec
     refine HC.out.mono ?_
     rintro e w6 ⟨rfl, hb6⟩
     have HB6 := Lib.hid (HB2.out.trans (hb6.mono hs5))
     have hr := (hb6.block _ (row_lt HR1.out)).trans HR1.out
     have hr0 := (hb6.block _ (row_lt HR0.out)).trans HR0.out
     have hx0 := (hb6.block _ (row_lt HX0.out)).trans HX0.out
     have HR := Lib.hid hr
     have HOWN6 := Lib.hid (HOWN.out.kept (row := none) ⟨hb6.os, hb6.tape, hb6.output, hb6.size, fun k hk _ => hb6.block k hk⟩ (own_or_none _))
     obtain ⟨z0, z1, z2, z3, z4, z5, z6, z7, z8, z9, z10⟩ := cells11 hr
     obtain ⟨a0, a1, a2, a3, a4, a5⟩ := cells6 hr0
     obtain ⟨y0, y1, y2, y3⟩ := cells4 hx0
     have zf := row_free hr
     clear hb6 hr hr0 hx0
     go_wp2_with fail
     obtain ⟨wf, hwf, hrw, hbf, -, hgf⟩ := fin11 (R := w.heap.size) (.slice A l.length c) (.int .i64 ((layF l ps0).2.ls.words : Int)) (.int .i64 ((layF l ps0).2.ptrs : Int)) (.slice A1 l.length cp1) (.int .i64 (layF l ps0).2.tag) (.int .i64 n.kind) (.string n.data) (.slice h.A n.ptrs.length h.a) (.int .i64 n.size) (.int .i64 n.count) (.slice h.B n.items.length h.b) HR.out HB6.out (by omega)
     rw [hwf]
     obtain ⟨e0, e1, e2, e3, e4, e5, e6, e7, e8, e9, e10⟩ := cells11 hrw
     exact bodyPost_ret (v := .tuple #[recV A l.length c l (.slice A1 l.length cp1) n h, .bool true]) (by simp [results, Tryz.results35, go_sem, recV, HTG.out, e0, e1, e2, e3, e4, e5, e6, e7, e8, e9, e10]) rfl (.inl ⟨HRF.out, _, rfl, HOWN6.out.kept hgf (.inr (own_ne_blk HOWN6.out HR.out (by decide))), hbf⟩)
 · have HOK := Lib.hid hok
   have HRF : Hid (recB l n = false) := Lib.hid (by unfold recB; rw [hok, Bool.false_and])
   have HX0 := Lib.hid (heap_alloc_new w1 (.cells #[.int .i64 0, .int .i64 0, .slice none 0 0, .int .i64 0] 59))
   have hb2 := (Below.refl w1.heap.size w1).alloc (Nat.le_refl _) (.cells #[.int .i64 0, .int .i64 0, .slice none 0 0, .int .i64 0] 59)
   have HL1 := Lib.hid (row_lt HG1.out)
   have hs1 := hb1.size
   have hr := (hb2.block _ (by have := HL1.out; omega)).trans ((hb1.block _ HL1.out).trans HG1.out)
   have HR := Lib.hid hr
   have HB6 := Lib.hid ((HB0.out.trans (hb1.mono hsW)).trans (hb2.mono (by omega)))
   obtain ⟨z0, z1, z2, z3, z4, z5, z6, z7, z8, z9, z10⟩ := cells11 hr
   have zf := row_free hr
   clear hb1 hb2 hok hr
   go_wp2_with fail
   obtain ⟨wf, hwf, hrw, hbf, -, -⟩ := fin11 (R := w.heap.size) (.slice none 0 0) (.int .i64 0) (.int .i64 0) (.slice none 0 0) (.int .i64 0) (.int .i64 0) (.string ⟨#[]⟩) (.slice none 0 0) (.int .i64 0) (.int .i64 0) (.slice none 0 0) HR.out HB6.out (by omega)
   rw [hwf]
   obtain ⟨e0, e1, e2, e3, e4, e5, e6, e7, e8, e9, e10⟩ := cells11 hrw
   exact bodyPost_ret (v := .tuple #[zero11, .bool false]) (by simp [results, Tryz.results35, go_sem, zero11, e0, e1, e2, e3, e4, e5, e6, e7, e8, e9, e10]) rfl (.inr ⟨HRF.out, rfl, hbf⟩)
def RecAt (w : World) (g : Nat) (A : Option Addr) (len c : Nat) (l : List Fld) (v1 : Value) (n : Nd) (h : Hd) : Prop :=
 w.heap[g]? = some (.cells #[.slice A len c, .int .i64 ((layF l ps0).2.ls.words : Int), .int .i64 ((layF l ps0).2.ptrs : Int), v1, .int .i64 (tagL l), .int .i64 n.kind, .string n.data, .slice h.A n.ptrs.length h.a, .int .i64 n.size, .int .i64 n.count, .slice h.B n.items.length h.b] recT (0, 0))
theorem RecAt.below {w w' : World} {g : Nat} {A : Option Addr} {len c : Nat} {l : List Fld} {v1 : Value} {n : Nd} {h : Hd} (hr : RecAt w g A len c l v1 n h) (hb : Below w.heap.size w w') : RecAt w' g A len c l v1 n h := (hb.block _ (row_lt hr)).trans hr
theorem field_keep (b : Nat) (W : World) : (Instr.field 110 (.agg #[.func (.func 112) #[] #[.pointer (some ⟨b, 0, none⟩)], .func (.func 114) #[] #[.pointer (some ⟨b, 0, none⟩)]]) 0).run Tryz.prog W = .ok (.func (.func 112) #[] #[.pointer (some ⟨b, 0, none⟩)]) W := by kernel_rfl
theorem field_num (z k s c : Int) (d : ByteArray) (p i : Value) (W : World) : (Instr.field 32 (.agg #[.int .i64 z, .int .i64 k, .string d, p, .int .i64 s, .int .i64 c, i]) 0).run Tryz.prog W = .ok (.int .i64 z) W := by kernel_rfl
theorem told_a (g : Nat) (A : Option Addr) (len c : Nat) (l : List Fld) (v1 : Value) (n : Nd) (h : Hd) (w : World) (hr : RecAt w g A len c l v1 n h) (hd : n.data.size ≤ maxLen) (h0 : 0 ≤ tagL l) (h1 : tagL l ≤ 10000) :
 Calls Tryz.prog 38 #[.pointer (some ⟨g, 0, none⟩)] w fun e w' => e = .returned (.int .i64 (getI n.data.data.toList (tagL l * 2) 2)) ∧ Below w.heap.size w w' := by
 have HR := Lib.hid hr
 have hfk := field_keep
 have hfn := field_num
 have hdr : Below w.heap.size w w.drew := ⟨rfl, rfl, rfl, Nat.le_refl _, fun _ _ => rfl⟩
 obtain ⟨c0, c1, c2, c3, c4, c5, c6, c7, c8, c9, c10⟩ := cells11 hr
 obtain ⟨d0, d1, d2, d3, d4, d5, d6, d7, d8, d9, d10⟩ := cells11 (hr.below hdr)
 clear hr
 go_enter Tryz.func38, Tryz.ntmps38
 go_wp2
 go_region_with (first | (go_at_call 65; refine (keeperOf_3 _).mono ?_; rintro e w2 ⟨f, gg, rfl, hb2, hk2⟩; obtain ⟨b, rfl, rfl, -, hbx⟩ : NumK 2 w.drew w2 f gg := (by rcases hk2 with ⟨h, _⟩ | ⟨h, _⟩ | ⟨h, _⟩ | ⟨_, h⟩ | ⟨h, _⟩ | ⟨h, _⟩ <;> first | exact h | (exact absurd h (by decide))); have HBX := Lib.hid hbx; obtain ⟨f0, f1, f2, f3, f4, f5, f6, f7, f8, f9, f10⟩ := cells11 ((HR.out.below hdr).below hb2); unfold nK1 nK2) | (go_at_call 112; refine (numGet_a n h (tagL l) 2 b _ hd HBX.out h0 h1 (by decide) (by decide)).mono ?_; rintro e w3 ⟨rfl, hb3⟩; unfold numV))
 all_goals
  have HBE := Lib.hid (hdr.trans (hb2.trans (hb3.mono hb2.size)))
  clear hb2 hb3
  go_wp2
  go_ret
  exact ⟨rfl, HBE.out⟩
theorem getI_eq {l : List UInt8} {a z : Int} (hw : l.length % 8 = 0 ∧ l.length ≤ 1600) (hp : placeB a z = true) : getI l a z = wrap64 (leN l a.toNat z.toNat : Nat) := by
 rw [getI, if_pos ⟨by simpa [wordsB] using hw, hp⟩]
def choN (l : List Fld) (n : Nd) : Int := if recB l n then (if tagL l < 0 then -1 else wrap64 (leN n.data.data.toList (2 * tagL l).toNat 2 : Nat)) else -1
theorem rec_data {l : List Fld} {n : Nd} (h : recB l n = true) : n.data.size % 8 = 0 ∧ n.data.size ≤ 1592 ∧ fldsOk l = true := by
 unfold recB isRec at h
 simp only [Bool.and_eq_true, decide_eq_true_eq] at h
 obtain ⟨h0, hk, ho⟩ := h
 obtain ⟨h8, hw⟩ := (by unfold nodeOk at ho; rw [Bool.and_eq_true, decide_eq_true_eq] at ho; exact ho : okN 8 n = true ∧ wordsN 8 n ≤ 199)
 have hf : formN n = true := by
  cases hf : formN n with
  | true => rfl
  | false => rw [ok_form hf] at h8; cases h8
 have ho8 : ownN n ≤ wordsN 8 n := own_le_words
 have hd : (n.data.size + 7) / 8 ≤ ownN n := by unfold ownN ownB; omega
 rcases form_cases hf with hc | hc | hc
 · exact ⟨by omega, by omega, h0⟩
 · exact ⟨by omega, by omega, h0⟩
 · exact absurd hc.1 hk
theorem cho_get {l : List Fld} {n : Nd} (h : recB l n = true) (ht : ¬ tagL l < 0) : getI n.data.data.toList (tagL l * 2) 2 = choN l n := by
 obtain ⟨h8, hw, hok⟩ := rec_data h
 have hb := tagL_bd hok
 have hp : placeB (tagL l * 2) 2 = true := by simp only [placeB, decide_eq_true_eq]; exact ⟨by omega, by omega, .inr (.inl trivial), by omega⟩
 have hl : n.data.data.toList.length = n.data.size := by simp
 rw [getI_eq (by rw [hl]; omega) hp]
 unfold choN
 rw [if_pos h, if_neg ht, Int.mul_comm]
 rfl
end Go.Proofs.YtehhbbdaeonebaaGreatDoor
namespace Go.Proofs.YtehhbbdaeonebaaGreatDoor
def inS (k a b : Nat) : Prop := a * 2 ^ (6 - k) ≤ b ∧ b < (a + 1) * 2 ^ (6 - k)
def FreeB (s : LS) (b : Nat) : Prop := ∃ k, 1 ≤ k ∧ k ≤ 6 ∧ s.hole k ≠ 0 ∧ inS k (s.hole k) b
structure LInv (s : LS) : Prop where
 apart : ∀ k k', 1 ≤ k → k ≤ 6 → 1 ≤ k' → k' ≤ 6 → k ≠ k' → s.hole k ≠ 0 → s.hole k' ≠ 0 → ∀ b, inS k (s.hole k) b → ¬ inS k' (s.hole k') b
 within : ∀ b, FreeB s b → b < 64 * s.words
def UsedB (s : LS) (b : Nat) : Prop := b < 64 * s.words ∧ ¬ FreeB s b
def dat (f : Fld) : Prop := f.size ≠ 6
def both (f g : Fld) : Prop := f.choice = true ∧ g.choice = true
structure GInv (s : PS) (D : List (Fld × Nat)) (N : Nat → Prop) : Prop where
 inv : LInv s.ls
 sh6 : ∀ r ∈ s.shared, r.1 ≤ 6
 nused : ∀ b, N b → UsedB s.ls b
 cused : ∀ r ∈ s.shared, ∀ b, inS r.1 r.2 b → UsedB s.ls b ∧ ¬ N b
 sapart : s.shared.Pairwise (fun r q => ∀ b, inS r.1 r.2 b → ¬ inS q.1 q.2 b)
 tagN : 0 ≤ s.tag → ∀ b, inS 2 s.tag.toNat b → N b
 dN : ∀ x ∈ D, dat x.1 → x.1.choice = false → ∀ b, inS (kOf x.1.size) x.2 b → N b
 dC : ∀ x ∈ D, dat x.1 → x.1.choice = true → ∃ r ∈ s.shared, r.1 ≤ kOf x.1.size ∧ x.2 = r.2 * 2 ^ (kOf x.1.size - r.1)
 dapart : D.Pairwise (fun x y => dat x.1 → dat y.1 → ¬ both x.1 y.1 → ∀ b, inS (kOf x.1.size) x.2 b → ¬ inS (kOf y.1.size) y.2 b)
 tagD : 0 ≤ s.tag → ∀ x ∈ D, dat x.1 → ∀ b, inS 2 s.tag.toNat b → ¬ inS (kOf x.1.size) x.2 b
 ptr : ∀ x ∈ D, ¬ dat x.1 → x.2 < s.ptrs
 ptrC : ∀ x ∈ D, ¬ dat x.1 → x.1.choice = true → (x.2 : Int) = s.point
 ptrN : ∀ x ∈ D, ¬ dat x.1 → x.1.choice = false → (x.2 : Int) ≠ s.point
 point : -1 ≤ s.point ∧ s.point < s.ptrs
 papart : D.Pairwise (fun x y => ¬ dat x.1 → ¬ dat y.1 → ¬ both x.1 y.1 → x.2 ≠ y.2)
 tagm : 0 ≤ s.tag ↔ 2 ≤ s.many
 tagb : -1 ≤ s.tag
 many : s.many = (D.filter fun x => x.1.choice).length
structure GMid (s : PS) (D : List (Fld × Nat)) (N : Nat → Prop) (c : Bool) : Prop where
 inv : LInv s.ls
 sh6 : ∀ r ∈ s.shared, r.1 ≤ 6
 nused : ∀ b, N b → UsedB s.ls b
 cused : ∀ r ∈ s.shared, ∀ b, inS r.1 r.2 b → UsedB s.ls b ∧ ¬ N b
 sapart : s.shared.Pairwise (fun r q => ∀ b, inS r.1 r.2 b → ¬ inS q.1 q.2 b)
 tagN : 0 ≤ s.tag → ∀ b, inS 2 s.tag.toNat b → N b
 dN : ∀ x ∈ D, dat x.1 → x.1.choice = false → ∀ b, inS (kOf x.1.size) x.2 b → N b
 dC : ∀ x ∈ D, dat x.1 → x.1.choice = true → ∃ r ∈ s.shared, r.1 ≤ kOf x.1.size ∧ x.2 = r.2 * 2 ^ (kOf x.1.size - r.1)
 dapart : D.Pairwise (fun x y => dat x.1 → dat y.1 → ¬ both x.1 y.1 → ∀ b, inS (kOf x.1.size) x.2 b → ¬ inS (kOf y.1.size) y.2 b)
 tagD : 0 ≤ s.tag → ∀ x ∈ D, dat x.1 → ∀ b, inS 2 s.tag.toNat b → ¬ inS (kOf x.1.size) x.2 b
 ptr : ∀ x ∈ D, ¬ dat x.1 → x.2 < s.ptrs
 ptrC : ∀ x ∈ D, ¬ dat x.1 → x.1.choice = true → (x.2 : Int) = s.point
 ptrN : ∀ x ∈ D, ¬ dat x.1 → x.1.choice = false → (x.2 : Int) ≠ s.point
 point : -1 ≤ s.point ∧ s.point < s.ptrs
 papart : D.Pairwise (fun x y => ¬ dat x.1 → ¬ dat y.1 → ¬ both x.1 y.1 → x.2 ≠ y.2)
 tagm : 0 ≤ s.tag ↔ 2 ≤ s.many
 tagb : -1 ≤ s.tag
 many : s.many = (D.filter fun x => x.1.choice).length + (if c then 1 else 0)
def atF (l : List Fld) (k : Nat) : Nat := (layF l ps0).1.getD k 0
def frF (z : Int) (a : Nat) : Int := (a : Int) * bitsOf z
def toF (z : Int) (a : Nat) : Int := (a : Int) * bitsOf z + bitsOf z
structure LayOk (l : List Fld) : Prop where
 size : ∀ k (hk : k < l.length), 1 ≤ (l[k]).size ∧ (l[k]).size ≤ 6
 within : ∀ k (hk : k < l.length), (l[k]).size ≠ 6 → toF (l[k]).size (atF l k) ≤ 64 * ((layF l ps0).2.ls.words : Int)
 tag : 0 ≤ (layF l ps0).2.tag → ∀ k (hk : k < l.length), (l[k]).size ≠ 6 → ¬ (frF (l[k]).size (atF l k) < 16 * (layF l ps0).2.tag + 16 ∧ 16 * (layF l ps0).2.tag < toF (l[k]).size (atF l k))
 tagIn : 0 ≤ (layF l ps0).2.tag → 16 * (layF l ps0).2.tag + 16 ≤ 64 * ((layF l ps0).2.ls.words : Int)
 pair : ∀ k i (hki : k < i) (hi : i < l.length), (l[i]).size ≠ 6 → (l[k]'(by omega)).size ≠ 6 → ¬ ((l[i]).choice = true ∧ (l[k]'(by omega)).choice = true) → ¬ (frF (l[i]).size (atF l i) < toF (l[k]'(by omega)).size (atF l k) ∧ frF (l[k]'(by omega)).size (atF l k) < toF (l[i]).size (atF l i))
 ptr : ∀ k (hk : k < l.length), (l[k]).size = 6 → atF l k < (layF l ps0).2.ptrs
 ptrs : ∀ k i (hki : k < i) (hi : i < l.length), (l[i]).size = 6 → (l[k]'(by omega)).size = 6 → ¬ ((l[i]).choice = true ∧ (l[k]'(by omega)).choice = true) → atF l i ≠ atF l k
 share : ∀ k i (hki : k < i) (hi : i < l.length), (l[i]).size ≠ 6 → (l[k]'(by omega)).size ≠ 6 → (l[i]).choice = true → (l[k]'(by omega)).choice = true → frF (l[i]).size (atF l i) < toF (l[k]'(by omega)).size (atF l k) → frF (l[k]'(by omega)).size (atF l k) < toF (l[i]).size (atF l i) → frF (l[i]).size (atF l i) = frF (l[k]'(by omega)).size (atF l k)
 shareP : ∀ k i (hki : k < i) (hi : i < l.length), (l[i]).size = 6 → (l[k]'(by omega)).size = 6 → (l[i]).choice = true → (l[k]'(by omega)).choice = true → atF l i = atF l k
 many : 0 ≤ (layF l ps0).2.tag ↔ 2 ≤ (l.filter fun f => f.choice).length
open Go.RowKit
def bitN (l : List UInt8) (i : Nat) : Nat := (l[i / 8]?.getD 0).toNat / 2 ^ (i % 8) % 2
theorem bit_any (l : List UInt8) (at_ : Int) (w : World) (hl : l.length = 8) (h0 : 0 ≤ at_) (h1 : at_ < 64) :
 Calls Tryz.prog 131 #[.agg (wd l), .int .i64 at_] w fun e w' => e = .returned (.int .i64 (bitN l at_.toNat : Nat)) ∧ Below w.heap.size w w' := by
 obtain ⟨a, rfl⟩ := Int.eq_ofNat_of_zero_le h0
 have hc := wd_cell w l 167 (a / 8) (by omega)
 have HL := Lib.hid hl
 clear hl
 go_enter Tryz.func131, Tryz.ntmps131
 go_wp2
 go_ret
 refine ⟨ret_int ?_, (Below.refl _ _).alloc (Nat.le_refl _) _⟩
 rw [bit_u8 _ _ (byte_lt l _)]
 rfl
theorem isBit_any (s : ByteArray) (at_ : Int) (w : World) (hs : s.size ≤ 1600) :
 Calls Tryz.prog 129 #[.string s, .int .i64 at_] w fun e w' => e = .returned (.bool (decide (0 ≤ at_ ∧ at_ < 8 * s.size))) ∧ w = w' := by
 by_cases h1 : 0 ≤ at_
 all_goals
  go_enter Tryz.func129, Tryz.ntmps129
  go_wp2
  all_goals go_ret
  all_goals refine ⟨ret_bool ?_, rfl⟩
  all_goals (rw [Bool.eq_iff_iff]; simp; omega)
theorem specBitGet_yes (s : ByteArray) (a : Nat) (w : World) (hs : s.size ≤ maxLen) (hw : wordsB s.size = true) (hin : a < 8 * s.size) (h16 : s.size ≤ 1600) :
 Calls Tryz.prog 61 #[.string s, .int .i64 a] w fun e w' => e = .returned (.int .i64 (bitN s.data.toList a : Nat)) ∧ w = w' := by
 have h8 : a / 8 < s.size := by omega
 go_enter Tryz.func61, Tryz.ntmps61
 go_wp2_with (first | (go_at_call 81; refine (l1Ok_any _ _ hs).mono ?_; rintro e w' ⟨rfl, rfl⟩))
 go_ret
 refine ⟨ret_int ?_, rfl⟩
 rw [bit_i64 _ _ (s[a / 8]).toNat_lt, bitN, bytes_get s _ h8]
def bitB (l : List UInt8) (at_ : Int) : Bool := wordsB l.length && decide (0 ≤ at_ ∧ at_ < 8 * l.length)
def bitI (l : List UInt8) (at_ : Int) : Int := if bitB l at_ = true then (bitN l at_.toNat : Nat) else 0
theorem specBitGet_any (s : ByteArray) (at_ : Int) (w : World) (hs : s.size ≤ maxLen) :
 Calls Tryz.prog 61 #[.string s, .int .i64 at_] w fun e w' => e = .returned (.int .i64 (bitI s.data.toList at_)) ∧ w = w' := by
 have hsl : s.data.toList.length = s.size := by simp
 cases hw : wordsB s.size
 · have hG : bitI s.data.toList at_ = 0 := by rw [bitI, bitB, hsl, hw, if_neg (by simp)]
   rw [hG]
   clear hG hsl
   go_enter Tryz.func61, Tryz.ntmps61
   go_wp2_with (first | (go_at_call 81; refine (l1Ok_any _ _ hs).mono ?_; rintro e w' ⟨rfl, rfl⟩))
   go_ret
   exact ⟨rfl, rfl⟩
 have hw8 : s.size % 8 = 0 ∧ s.size ≤ 1600 := by simpa [wordsB] using hw
 obtain ⟨hw1, hw2⟩ := hw8
 by_cases h0 : at_ < 0
 · have hG : bitI s.data.toList at_ = 0 := by rw [bitI, if_neg (by simp [bitB]; intros; omega)]
   rw [hG]
   clear hG hsl
   go_enter Tryz.func61, Tryz.ntmps61
   go_wp2_with (first | (go_at_call 81; refine (l1Ok_any _ _ hs).mono ?_; rintro e w' ⟨rfl, rfl⟩))
   go_ret
   exact ⟨rfl, rfl⟩
 obtain ⟨a, rfl⟩ := Int.eq_ofNat_of_zero_le (show 0 ≤ at_ by omega)
 by_cases h1 : a < 8 * s.size
 · have hG : bitI s.data.toList a = (bitN s.data.toList a : Nat) := by rw [bitI, bitB, hsl, hw, if_pos (by simp; omega)]; rfl
   rw [hG]
   exact specBitGet_yes s a w hs hw h1 hw2
 · have hG : bitI s.data.toList a = 0 := by rw [bitI, bitB, hsl, if_neg (by simp; intros; omega)]
   rw [hG]
   clear hG hsl
   go_enter Tryz.func61, Tryz.ntmps61
   go_wp2_with (first | (go_at_call 81; refine (l1Ok_any _ _ hs).mono ?_; rintro e w' ⟨rfl, rfl⟩))
   go_ret
   exact ⟨rfl, rfl⟩
theorem bitN_word (l : List UInt8) (a : Nat) : bitN ((l.drop (8 * (a / 64))).take 8) (a % 64) = bitN l a := by
 rw [bitN, bitN, List.getElem?_take_of_lt (by omega), List.getElem?_drop, show 8 * (a / 64) + a % 64 / 8 = a / 8 by omega, show a % 64 % 8 = a % 8 by omega]
theorem implBitGet_any (s : ByteArray) (at_ : Int) (w : World) (hs : s.size ≤ maxLen) :
 Calls Tryz.prog 110 #[.string s, .int .i64 at_] w fun e w' => e = .returned (.int .i64 (bitI s.data.toList at_)) ∧ Below w.heap.size w w' := by
 have hsl : s.data.toList.length = s.size := by simp
 cases hw : wordsB s.size
 · have hG : bitI s.data.toList at_ = 0 := by rw [bitI, bitB, hsl, hw, if_neg (by simp)]
   rw [hG]
   clear hG hsl
   go_enter Tryz.func110, Tryz.ntmps110
   go_wp2_with (first | (go_at_call 128; refine (isWords_any _ _ hs).mono ?_; rintro e w' ⟨rfl, rfl⟩))
   go_ret
   exact ⟨rfl, Below.refl _ _⟩
 have hw8 : s.size % 8 = 0 ∧ s.size ≤ 1600 := by simpa [wordsB] using hw
 obtain ⟨hw1, hw2⟩ := hw8
 by_cases hin : 0 ≤ at_ ∧ at_ < 8 * s.size
 · obtain ⟨a, rfl⟩ := Int.eq_ofNat_of_zero_le hin.1
   have hlt : a < 8 * s.size := by omega
   have hG : bitI s.data.toList a = (bitN ((s.data.toList.drop (8 * (a / 64))).take 8) (a % 64) : Nat) := by rw [bitI, bitB, hsl, hw, if_pos (by simp; omega), bitN_word]; rfl
   have hlen : ((s.data.toList.drop (8 * (a / 64))).take 8).length = 8 := by simp; omega
   have hb : decide (0 ≤ (a : Int) ∧ (a : Int) < 8 * s.size) = true := by simp; omega
   have HI := Lib.hid hb
   have HL := Lib.hid hlen
   rw [hG]
   clear hG hsl hlen hin hb
   go_enter Tryz.func110, Tryz.ntmps110
   go_wp2_with (first | (go_at_call 128; refine (isWords_any _ _ hs).mono ?_; rintro e w' ⟨rfl, rfl⟩) | (go_at_call 129; refine (isBit_any _ _ _ hw2).mono ?_; rw [HI.out]; rintro e w' ⟨rfl, rfl⟩) | (go_at_call 130; go_must (refine (wordAt_any s _ _ hs (by omega) (by omega)).mono ?_); rintro e w1 ⟨rfl, hb1⟩) | (go_at_call 131; go_must (refine (bit_any _ _ _ (by exact HL.out) (by omega) (by omega)).mono ?_); rintro e w2 ⟨rfl, hb2⟩))
   go_ret
   exact ⟨rfl, hb1.trans (hb2.mono hb1.size)⟩
 · have hG : bitI s.data.toList at_ = 0 := by rw [bitI, bitB, hsl, if_neg (by simp; intros; omega)]
   have hb : decide (0 ≤ at_ ∧ at_ < 8 * s.size) = false := by simpa using hin
   have HI := Lib.hid hb
   rw [hG]
   clear hG hsl hin hb
   go_enter Tryz.func110, Tryz.ntmps110
   go_wp2_with (first | (go_at_call 128; refine (isWords_any _ _ hs).mono ?_; rintro e w' ⟨rfl, rfl⟩) | (go_at_call 129; refine (isBit_any _ _ _ hw2).mono ?_; rw [HI.out]; rintro e w' ⟨rfl, rfl⟩))
   go_ret
   exact ⟨rfl, Below.refl _ _⟩
open Go.RowKit Go.Deep
abbrev byR (n : Nd) : List UInt8 := n.data.data.toList
def plcN (l : List Fld) (k : Nat) : Nat := (l.take k).countP (fun f => f.choice)
def wdF (z : Int) : Int := if z = 2 then 1 else if z = 3 then 2 else if z = 4 then 4 else 8
def rawI (f : Fld) (s : Nat) (n : Nd) : Int := if f.size = 1 then bitI (byR n) (s : Int) else getI (byR n) ((s : Int) * wdF f.size) (wdF f.size)
def fldK (l : List Fld) (k : Nat) : Fld := l[k]?.getD ⟨0, false, 0⟩
theorem fldK_at {l : List Fld} {k : Nat} (h : k < l.length) : fldK l k = l[k] := by unfold fldK; rw [List.getElem?_eq_getElem h]; rfl
def tellsB (l : List Fld) (k : Nat) : Bool := (fldK l k).choice && decide (0 ≤ tagL l)
def seenB (l : List Fld) (n : Nd) (k : Nat) : Bool := !tellsB l k || decide (choN l n = (plcN l k : Int))
def rgB (l : List Fld) (n : Nd) (a : Int) : Bool := recB l n && (withB a l.length && seenB l n a.toNat)
def fNum (l : List Fld) (n : Nd) (k : Nat) : Int := if (fldK l k).size = 6 then 0 else xorI (rawI (fldK l k) (atF l k) n) (fldK l k).els
def fNod (l : List Fld) (n : Nd) (k : Nat) : Nd := if (fldK l k).size = 6 then n.ptrs[atF l k]?.getD noneNd else noneNd
def rgN (l : List Fld) (n : Nd) (a : Int) : Int := if rgB l n a = true then fNum l n a.toNat else 0
def rgY (l : List Fld) (n : Nd) (a : Int) : Nd := if rgB l n a = true then fNod l n a.toNat else noneNd
theorem atF_le {l : List Fld} (hok : fldsOk l = true) {k : Nat} (hk : k < l.length) : atF l k ≤ 2000 := by
 have hl := fldsOk_len hok
 refine lay_bd_at l pbd0 (by omega) _ ?_
 unfold atF
 rw [List.getD, List.getElem?_eq_getElem (by rw [lay_length]; exact hk)]
 exact List.getElem_mem _
theorem fld_ok_at {l : List Fld} (h : fldsOk l = true) {k : Nat} (hk : k < l.length) : fldOk l[k] = true := by
 unfold fldsOk at h
 rw [Bool.and_eq_true] at h
 exact List.all_eq_true.mp h.1 _ (List.getElem_mem hk)
theorem els_six {f : Fld} (h : fldOk f = true) (h6 : f.size = 6) : f.els = 0 := by
 unfold fldOk fitB at h
 rw [h6] at h
 simpa [inB] using h
theorem getI_lg {l : List UInt8} {a z : Int} (hw : l.length % 8 = 0 ∧ l.length ≤ 1600) (hz : z = 1 ∨ z = 2 ∨ z = 4 ∨ z = 8) (h0 : 0 ≤ a) (hm : a % z = 0) : getI l a z = wrap64 (leN l a.toNat z.toNat : Nat) := by
 have hwb : wordsB l.length = true := by simp [wordsB, hw]
 by_cases h1 : a ≤ 1600
 · unfold getI
   rw [if_pos ⟨hwb, by simp [placeB]; omega⟩]
 · unfold getI
   rw [if_neg (by simp [placeB]; omega), leN_out _ _ _ (by omega)]
   simp [wrap64]
theorem wdF_or (z : Int) : wdF z = 1 ∨ wdF z = 2 ∨ wdF z = 4 ∨ wdF z = 8 := by
 unfold wdF
 split
 · exact .inl rfl
 · split
   · exact .inr (.inl rfl)
   · split
     · exact .inr (.inr (.inl rfl))
     · exact .inr (.inr (.inr rfl))
theorem rec_bytes {l : List Fld} {n : Nd} (h : recB l n = true) : (byR n).length % 8 = 0 ∧ (byR n).length ≤ 1600 := by
 obtain ⟨h8, hw, -⟩ := rec_data h
 have e : (byR n).length = n.data.size := by simp [byR]
 rw [e]
 exact ⟨h8, by omega⟩
theorem plc_succ {l : List Fld} {j : Nat} (h : j < l.length) : plcN l (j + 1) = plcN l j + (if (l[j]).choice then 1 else 0) := by
 unfold plcN
 rw [List.take_succ_eq_append_getElem h, List.countP_append, List.countP_singleton]
theorem plc_le (l : List Fld) (k : Nat) : plcN l k ≤ k := by
 unfold plcN
 exact Nat.le_trans List.countP_le_length (by rw [List.length_take]; omega)
theorem placeOf_a (A : Option Addr) (c : Nat) (l : List Fld) (k : Nat) (hk : k < l.length) (hc : l.length ≤ c) (w : World) (h : Flds w A l) (hl : l.length ≤ 12) :
 Calls Tryz.prog 39 #[.slice A l.length c, .int .i64 (k : Int)] w fun e w' => e = .returned (.int .i64 (plcN l k : Nat)) ∧ Below w.heap.size w w' := by
 have HF := Lib.hid h
 obtain ⟨x, rfl, hxb, -⟩ := h.at2 hk
 have hkc : k ≤ c := by omega
 have hk12 : k ≤ 12 := by omega
 clear h
 go_enter Tryz.func39, Tryz.ntmps39
 go_wp2
 go_loopw [5, 12] (fun q i wr => ∃ (j u : Nat), i = .int .i64 (j : Int) ∧ q = .int .i64 (u : Int) ∧ j ≤ k ∧ u ≤ 12 ∧ Hid (u = plcN l j) ∧ Hid (Below w.heap.size w wr)) (fun _ i _ => k - (intOf i).toNat)
 case atStart => exact ⟨0, 0, rfl, rfl, by omega, by omega, Lib.hid rfl, Lib.hid (Below.refl _ _)⟩
 case round =>
  obtain ⟨j, u, rfl, rfl, hj, hu, HU, HB⟩ := hrel
  by_cases hlt : j < k
  · obtain ⟨x', hx', hxb', hx⟩ := (HF.out.below HB.out).at2 (k := j) (by omega)
    obtain rfl := Option.some.inj hx'
    have HTK := Lib.hid (plc_succ (l := l) (j := j) (by omega))
    have HP := Lib.hid (plc_le l (j + 1))
    generalize l[j] = f at hx HTK
    obtain ⟨z, fc, el⟩ := f
    obtain ⟨c0, c1, c2⟩ := hx
    have HB2 := Lib.hid (HB.out.alloc HB.out.size (.cells #[.int .i64 z, .bool fc, .int .i64 el] 62))
    cases fc
    · go_wp2
      go_roundw
      case rel => exact ⟨j + 1, u, by go_num, rfl, by omega, by omega, Lib.hid (by rw [HTK.out, HU.out]; rfl), HB2⟩
      case measure => simp [intOf]; omega
    · have hu1 : u + 1 ≤ 12 := by have h1 := HP.out; have h2 := HTK.out; have h3 := HU.out; simp at h2; omega
      go_wp2
      go_roundw
      case rel => exact ⟨j + 1, u + 1, by go_num, by go_num, by omega, hu1, Lib.hid (by rw [HTK.out, HU.out]; rfl), HB2⟩
      case measure => simp [intOf]; omega
  · obtain rfl : j = k := by omega
    go_wp2
    go_ret
    exact ⟨by rw [← HU.out]; rfl, HB.out⟩
theorem l8Choice_a (A : Option Addr) (c : Nat) (l : List Fld) (k : Nat) (hk : k < l.length) (w : World) (h : Flds w A l) (hl : l.length ≤ 12) :
 Calls Tryz.prog 30 #[.slice A l.length c, .int .i64 (k : Int)] w fun e w' => e = .returned (.int .i64 (plcN l k : Nat)) ∧ Below w.heap.size w w' := by
 have HF := Lib.hid h
 obtain ⟨x, rfl, hxb, -⟩ := h.at2 hk
 have hk12 : k ≤ 12 := by omega
 clear h
 go_enter Tryz.func30, Tryz.ntmps30
 go_wp2
 go_loopw [5, 6] (fun q i wr => ∃ (j u : Nat), i = .int .i64 (j : Int) ∧ q = .int .i64 (u : Int) ∧ j ≤ k ∧ u ≤ 12 ∧ Hid (u = plcN l j) ∧ Hid (Below w.heap.size w wr)) (fun _ i _ => k - (intOf i).toNat)
 case atStart => exact ⟨0, 0, rfl, rfl, by omega, by omega, Lib.hid rfl, Lib.hid (Below.refl _ _)⟩
 case round =>
  obtain ⟨j, u, rfl, rfl, hj, hu, HU, HB⟩ := hrel
  by_cases hlt : j < k
  · obtain ⟨x', hx', hxb', hx⟩ := (HF.out.below HB.out).at2 (k := j) (by omega)
    obtain rfl := Option.some.inj hx'
    have HTK := Lib.hid (plc_succ (l := l) (j := j) (by omega))
    have HP := Lib.hid (plc_le l (j + 1))
    generalize l[j] = f at hx HTK
    obtain ⟨z, fc, el⟩ := f
    obtain ⟨c0, c1, c2⟩ := hx
    have hjl : j < l.length := by omega
    cases fc
    · go_wp2
      go_roundw
      case rel => exact ⟨j + 1, u, by go_num, rfl, by omega, by omega, Lib.hid (by rw [HTK.out, HU.out]; rfl), HB⟩
      case measure => simp [intOf]; omega
    · have hu1 : u + 1 ≤ 12 := by have h1 := HP.out; have h2 := HTK.out; have h3 := HU.out; simp at h2; omega
      go_wp2
      go_roundw
      case rel => exact ⟨j + 1, u + 1, by go_num, by go_num, by omega, hu1, Lib.hid (by rw [HTK.out, HU.out]; rfl), HB⟩
      case measure => simp [intOf]; omega
  · obtain rfl : j = k := by omega
    go_wp2
    go_ret
    exact ⟨by rw [← HU.out]; rfl, HB.out⟩
theorem tells_eq {l : List Fld} {k : Nat} (hk : k < l.length) : tellsB l k = ((l[k]).choice && decide (0 ≤ tagL l)) := by unfold tellsB; rw [fldK_at hk]
theorem tells_a (g : Nat) (x : Addr) (c : Nat) (l : List Fld) (v1 : Value) (n : Nd) (h : Hd) (k : Nat) (hk : k < l.length) (w : World) (hr : RecAt w g (some x) l.length c l v1 n h) (hf : FldAt w (x.add (k * 3)) l[k]) (hl : l.length ≤ 12) :
 Calls Tryz.prog 37 #[.pointer (some ⟨g, 0, none⟩), .int .i64 (k : Int)] w fun e w' => e = .returned (.bool (tellsB l k)) ∧ Below w.heap.size w w' := by
 obtain ⟨a0, a1, a2, a3, a4, a5, a6, a7, a8, a9, a10⟩ := cells11 hr
 rw [tells_eq hk]
 generalize l[k] = f at *
 obtain ⟨z, fc, el⟩ := f
 obtain ⟨c0, c1, c2⟩ := hf
 clear hr
 cases fc
 · go_enter Tryz.func37, Tryz.ntmps37
   go_wp2
   go_ret
   exact ⟨rfl, Below.refl _ _⟩
 · go_enter Tryz.func37, Tryz.ntmps37
   go_wp2
   go_ret
   exact ⟨by simp, Below.refl _ _⟩
abbrev numA (z : Int) : Value := .agg #[.int .i64 z, .int .i64 0, .string { data := #[] }, .slice none 0 0, .int .i64 0, .int .i64 0, .slice none 0 0]
theorem getBit_a (n : Nd) (h : Hd) (at_ : Int) (w : World) (hd : n.data.size ≤ maxLen) :
 Calls Tryz.prog 84 #[.agg #[.int .i64 n.kind, .string n.data, .slice h.A n.ptrs.length h.a, .int .i64 n.size, .int .i64 n.count, .slice h.B n.items.length h.b], .int .i64 at_] w fun e w' => e = .returned (numV (bitI n.data.data.toList at_)) ∧ Below w.heap.size w w' := by
 have hax : (w.alloc (.cells #[.int .i64 n.kind, .string n.data, .slice h.A n.ptrs.length h.a, .int .i64 n.size, .int .i64 n.count, .slice h.B n.items.length h.b] nodeT)).heap.size = w.heap.size + 1 := by simp
 have hbx : Below w.heap.size w ((w.alloc (.cells #[.int .i64 n.kind, .string n.data, .slice h.A n.ptrs.length h.a, .int .i64 n.size, .int .i64 n.count, .slice h.B n.items.length h.b] nodeT)).alloc (.cells #[.int .i64 0, .int .i64 0, .string { data := #[] }, .slice none 0 0, .int .i64 0, .int .i64 0, .slice none 0 0] valT)) := ((Below.refl _ _).alloc (Nat.le_refl _) _).alloc (by simp) _
 have hg0 : ((w.alloc (.cells #[.int .i64 n.kind, .string n.data, .slice h.A n.ptrs.length h.a, .int .i64 n.size, .int .i64 n.count, .slice h.B n.items.length h.b] nodeT)).alloc (.cells #[.int .i64 0, .int .i64 0, .string { data := #[] }, .slice none 0 0, .int .i64 0, .int .i64 0, .slice none 0 0] valT)).heap[w.heap.size]? = some (.cells #[.int .i64 n.kind, .string n.data, .slice h.A n.ptrs.length h.a, .int .i64 n.size, .int .i64 n.count, .slice h.B n.items.length h.b] nodeT (0, 0)) := heap_alloc_keep (heap_alloc_new w _) _
 have hg1 : ((w.alloc (.cells #[.int .i64 n.kind, .string n.data, .slice h.A n.ptrs.length h.a, .int .i64 n.size, .int .i64 n.count, .slice h.B n.items.length h.b] nodeT)).alloc (.cells #[.int .i64 0, .int .i64 0, .string { data := #[] }, .slice none 0 0, .int .i64 0, .int .i64 0, .slice none 0 0] valT)).heap[w.heap.size + 1]? = some (.cells #[.int .i64 0, .int .i64 0, .string { data := #[] }, .slice none 0 0, .int .i64 0, .int .i64 0, .slice none 0 0] valT (0, 0)) := hax ▸ heap_alloc_new _ _
 obtain ⟨a0, a1, a2, a3, a4, a5⟩ := cells6 hg0
 have HB0 := Lib.hid hbx
 have HG1 := Lib.hid hg1
 clear hbx hg0 hg1 hax
 go_enter Tryz.func84, Tryz.ntmps84
 go_wp2_with fail
 clear a0 a1 a2 a3 a4 a5
 generalize ((w.alloc (.cells #[.int .i64 n.kind, .string n.data, .slice h.A n.ptrs.length h.a, .int .i64 n.size, .int .i64 n.count, .slice h.B n.items.length h.b] nodeT)).alloc (.cells #[.int .i64 0, .int .i64 0, .string { data := #[] }, .slice none 0 0, .int .i64 0, .int .i64 0, .slice none 0 0] valT)) = W at *
 refine (implBitGet_any n.data at_ W hd).mono ?_
 rintro e w2 ⟨rfl, hb2⟩
 have hs := HB0.out.size
 have HB2 := Lib.hid (HB0.out.trans (hb2.mono hs))
 have hr := (hb2.block _ (row_lt HG1.out)).trans HG1.out
 have HR := Lib.hid hr
 obtain ⟨z0, z1, z2, z3, z4, z5, z6⟩ := cells7r hr
 have zf := row_free hr
 obtain ⟨gv, hgv⟩ : ∃ gv, bitI n.data.data.toList at_ = gv := ⟨_, rfl⟩
 have HGV := Lib.hid hgv
 rw [hgv]
 clear hgv
 clear hb2 hr
 go_wp2_with fail
 obtain ⟨wf, hwf, hrw, hbf, -, -⟩ := fin7 (R := w.heap.size) (.int .i64 gv) (.int .i64 0) (.string ⟨#[]⟩) (.slice none 0 0) (.int .i64 0) (.int .i64 0) (.slice none 0 0) HR.out HB2.out (by omega)
 rw [hwf]
 obtain ⟨e0, e1, e2, e3, e4, e5, e6⟩ := cells7r hrw
 exact bodyPost_ret (v := numV gv) (by simp [results, Tryz.results84, go_sem, numV, e0, e1, e2, e3, e4, e5, e6]) rfl ⟨by rw [HGV.out], hbf⟩
theorem getNode_out (n : Nd) (h : Hd) (at_ : Int) (w : World) (h0 : 0 ≤ at_) (hl : (n.ptrs.length : Int) ≤ at_) (hm : n.ptrs.length ≤ maxLen) :
 Calls Tryz.prog 87 #[.agg #[.int .i64 n.kind, .string n.data, .slice h.A n.ptrs.length h.a, .int .i64 n.size, .int .i64 n.count, .slice h.B n.items.length h.b], .int .i64 at_] w fun e w' => e = .returned (numA 0) ∧ Below w.heap.size w w' := by
 have q0 := al_first w (.cells #[.int .i64 n.kind, .string n.data, .slice h.A n.ptrs.length h.a, .int .i64 n.size, .int .i64 n.count, .slice h.B n.items.length h.b] nodeT)
 have q1 := al_next q0 (.cells #[.int .i64 0, .int .i64 0, .string { data := #[] }, .slice none 0 0, .int .i64 0, .int .i64 0, .slice none 0 0] valT)
 have r0 := heap_alloc_new w (.cells #[.int .i64 n.kind, .string n.data, .slice h.A n.ptrs.length h.a, .int .i64 n.size, .int .i64 n.count, .slice h.B n.items.length h.b] nodeT)
 have r1 := al_row q0 #[.int .i64 0, .int .i64 0, .string { data := #[] }, .slice none 0 0, .int .i64 0, .int .i64 0, .slice none 0 0] valT
 obtain ⟨a0, a1, a2, a3, a4, a5⟩ := cells6 r0
 obtain ⟨z0, z1, z2, z3, z4, z5, z6⟩ := cellsV r1
 have zf := row_free r1
 have HB0 := Lib.hid q1.2
 have HR1 := Lib.hid r1
 clear q1 q0 r0 r1
 go_enter Tryz.func87, Tryz.ntmps87
 go_wp2_with fail
 obtain ⟨y0, y1, y2, y3, y4, y5, y6⟩ := cellsV HR1.out
 exact bodyPost_ret (v := numA 0) (by simp [results, Tryz.results87, go_sem, y0, y1, y2, y3, y4, y5, y6]) rfl ⟨rfl, HB0.out⟩
theorem getNode_in (n : Nd) (x : Addr) (ca : Nat) (B : Option Addr) (cb : Nat) (k : Nat) (y : Nd) (hy : Hd) (w : World) (hk : k < n.ptrs.length) (hm : n.ptrs.length ≤ maxLen) (hc : NdCell w (x.add (k * 6)) y hy) :
 Calls Tryz.prog 87 #[.agg #[.int .i64 n.kind, .string n.data, .slice (some x) n.ptrs.length ca, .int .i64 n.size, .int .i64 n.count, .slice B n.items.length cb], .int .i64 (k : Int)] w fun e w' => e = .returned (valV 0 y hy) ∧ Below w.heap.size w w' := by
 have q0 := al_first w (.cells #[.int .i64 n.kind, .string n.data, .slice (some x) n.ptrs.length ca, .int .i64 n.size, .int .i64 n.count, .slice B n.items.length cb] nodeT)
 have q1 := al_next q0 (.cells #[.int .i64 0, .int .i64 0, .string { data := #[] }, .slice none 0 0, .int .i64 0, .int .i64 0, .slice none 0 0] valT)
 have r0 := heap_alloc_keep (heap_alloc_new w (.cells #[.int .i64 n.kind, .string n.data, .slice (some x) n.ptrs.length ca, .int .i64 n.size, .int .i64 n.count, .slice B n.items.length cb] nodeT)) (.cells #[.int .i64 0, .int .i64 0, .string { data := #[] }, .slice none 0 0, .int .i64 0, .int .i64 0, .slice none 0 0] valT)
 have r1 := al_row q0 #[.int .i64 0, .int .i64 0, .string { data := #[] }, .slice none 0 0, .int .i64 0, .int .i64 0, .slice none 0 0] valT
 obtain ⟨a0, a1, a2, a3, a4, a5⟩ := cells6 r0
 obtain ⟨z0, z1, z2, z3, z4, z5, z6⟩ := cellsV r1
 have zf := row_free r1
 obtain ⟨d0, d1, d2, d3, d4, d5⟩ := hc.block (q1.2.block _ hc.lt)
 have HB0 := Lib.hid q1.2
 have HR1 := Lib.hid r1
 have hge : ¬ ((n.ptrs.length : Int) ≤ k) := by omega
 clear q1 q0 r0 r1 hc
 go_enter Tryz.func87, Tryz.ntmps87
 go_wp2_with fail
 have r2 := al_row (al_first w (.cells #[.int .i64 n.kind, .string n.data, .slice (some x) n.ptrs.length ca, .int .i64 n.size, .int .i64 n.count, .slice B n.items.length cb] nodeT)) #[.int .i64 0, .int .i64 y.kind, .string y.data, .slice hy.A y.ptrs.length hy.a, .int .i64 y.size, .int .i64 y.count, .slice hy.B y.items.length hy.b] valT
 obtain ⟨y0, y1, y2, y3, y4, y5, y6⟩ := cellsV r2
 exact bodyPost_ret (v := valV 0 y hy) (by simp [results, Tryz.results87, go_sem, y0, y1, y2, y3, y4, y5, y6]) rfl ⟨rfl, (al_next (al_first w (.cells #[.int .i64 n.kind, .string n.data, .slice (some x) n.ptrs.length ca, .int .i64 n.size, .int .i64 n.count, .slice B n.items.length cb] nodeT)) _).2⟩
end Go.Proofs.YtehhbbdaeonebaaGreatDoor
