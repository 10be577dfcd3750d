/- Texts of the proof of the law FnExactRecordOf, side by side: part 10. -/
import Derived.Test.YtehhbbdaeonebaaGreatDoorMExactRecordOf09
set_option maxHeartbeats 8000000
set_option maxRecDepth 100000
namespace Go.Proofs.YtehhbbdaeonebaaGreatDoor
open Go.RowKit
theorem implLayoutOf_any (A : Option Addr) (c : Nat) (l : List Fld) (w : World) (ht : Tab w) (h1w : 2 < w.heap.size) (h : Flds w A l) (hl : l.length ≤ 10000000) :
 Calls Tryz.prog 63 #[.slice A l.length c] w (LayP l w) := by
 have hmm := @run_makeMap Tryz.prog
 obtain ⟨i0, hi, hz0, hz1, hz2⟩ := info_parts infoSlot
 have hal : Below w.heap.size w (w.alloc (.cells #[.int .i64 0, .int .i64 0, .slice none 0 0, .int .i64 0] 59)) := (Below.refl _ _).alloc (Nat.le_refl _) _
 have HF := Lib.hid (h.below hal)
 have HT := Lib.hid ht
 have HAL := Lib.hid hal
 have HFO := Lib.hid (implFieldsOk_any A c l _ HF.out hl)
 clear h ht hal
 cases hok : fldsOk l with
 | false =>
  rw [hok] at HFO
  have HOK := Lib.hid hok
  clear hok
  go_enter Tryz.func63, Tryz.ntmps63
  go_wp2_with fail
  refine HFO.out.mono ?_
  rintro e w1 ⟨rfl, hb1⟩
  have k0 : w1.heap[w.heap.size]? = some (.cells #[.int .i64 0, .int .i64 0, .slice none 0 0, .int .i64 0] 59 (0, 0)) := (hb1.block w.heap.size (by simp)).trans (heap_alloc_new _ _)
  obtain ⟨g0, g1, g2, g3⟩ := cells4 k0
  have fz := row_free k0
  have hlt := row_lt k0
  have HB1 := Lib.hid (HAL.out.trans (hb1.mono (by simp)))
  have HK := Lib.hid k0
  clear hb1 k0
  go_wp2
  obtain ⟨wf, e, hr, hg⟩ := store4 HK.out (.int .i64 0) (.int .i64 0) (.slice none 0 0) (.int .i64 0)
  rw [e]
  obtain ⟨r0, r1, r2, r3⟩ := cells4 hr
  refine bodyPost_ret (v := .tuple #[.agg #[.int .i64 0, .int .i64 0, .slice none 0 0, .int .i64 0], .bool false]) (by simp [results, Tryz.results63, go_sem, r0, r1, r2, r3]) rfl (.inr ⟨HOK.out, rfl, ?_⟩)
  exact grown_below_b HB1.out hg (Nat.le_refl _) (Nat.le_of_lt hlt)
 | true =>
  rw [hok] at HFO
  have HOK := Lib.hid hok
  clear hok
  have hl12 := fldsOk_len HOK.out
  go_enter Tryz.func63, Tryz.ntmps63
  go_wp2_with fail
  refine HFO.out.mono ?_
  rintro e w1 ⟨rfl, hb1⟩
  have k0 : w1.heap[w.heap.size]? = some (.cells #[.int .i64 0, .int .i64 0, .slice none 0 0, .int .i64 0] 59 (0, 0)) := (hb1.block w.heap.size (by simp)).trans (heap_alloc_new _ _)
  have hlt := row_lt k0
  have HB1 := Lib.hid (HAL.out.trans (hb1.mono (by simp)))
  have HK := Lib.hid k0
  have hB1 : (w.alloc (.cells #[.int .i64 0, .int .i64 0, .slice none 0 0, .int .i64 0] 59)).heap.size = w.heap.size + 1 := by simp
  have HBW := Lib.hid hb1
  have HZ := Lib.hid hB1
  have HM := Lib.hid (Pl.made w1 (w.heap.size + 1) (by omega))
  have hbp : Below (w.heap.size + 1) (w.alloc (.cells #[.int .i64 0, .int .i64 0, .slice none 0 0, .int .i64 0] 59)) ((w1.alloc (.map #[] 0)).alloc (.cells #[.int .i64 0, .int .i64 0, .slice none 0 0, .int .i64 (-1), .map (some w1.heap.size), .int .i64 0, .slice none 0 0, .int .i64 (-1)] planT)) := (((hB1 ▸ hb1 : Below (w.heap.size + 1) _ w1)).alloc (by omega) _).alloc (by simp; omega) _
  have HBP := Lib.hid hbp
  clear hb1 k0 hbp hB1
  go_wp2
  go_loopw [17] (fun i wr => ∃ k : Nat, i = .int .i64 k ∧ k ≤ l.length ∧ Hid (∃ v1 v2, Pl wr (w.heap.size + 1) (w1.heap.size + 1) w1.heap.size v1 v2 (layF (l.take k) ps0).2 (layF (l.take k) ps0).1 (12 * k)) ∧ Hid (Below (w.heap.size + 1) (w.alloc (.cells #[.int .i64 0, .int .i64 0, .slice none 0 0, .int .i64 0] 59)) wr)) (fun i _ => l.length - (intOf i).toNat)
  case atStart => exact ⟨0, rfl, by omega, by exact Lib.hid ⟨_, _, HM.out⟩, by exact HBP⟩
  case round =>
   obtain ⟨k, rfl, hk, HP, HB⟩ := hrel
   by_cases hlt2 : k < l.length
   · obtain ⟨x, rfl, hxb, hx⟩ := HF.out.at2 hlt2
     have hx2 := hx.below HB.out (by rw [addr_block]; have := HZ.out; omega)
     have hsz := fldsOk_at HOK.out k hlt2
     have HTK := Lib.hid (lay_take l k hlt2)
     have HBD := Lib.hid (lay_pbd l k hk)
     have HLEN := Lib.hid (lay_len l k hk)
     obtain ⟨v1, v2, hp⟩ := HP.out
     generalize (layF (l.take k) ps0).2 = s at hp HTK HBD
     generalize (layF (l.take k) ps0).1 = sl at hp HTK HLEN
     generalize l[k] = f at hx2 hsz HTK
     obtain ⟨z, fc, el⟩ := f
     obtain ⟨c0, c1, c2⟩ := hx2
     obtain ⟨hz1', hz6'⟩ := hsz
     have hpa := hp.alloc (.cells #[.int .i64 z, .bool fc, .int .i64 el] 62)
     have hba := HB.out.alloc hp.rs (.cells #[.int .i64 z, .bool fc, .int .i64 el] 62)
     have HPA := Lib.hid hpa
     have HTA := Lib.hid (HT.out.below (R := w.heap.size) (HAL.out.trans (hba.mono (by omega))) h1w)
     have hA2 := hpa.cells.2.2.1
     have HBA := Lib.hid hba
     have hsll : sl.length ≤ 12 := by have := HLEN.out; omega
     have hpr := hpa.rs
     obtain ⟨A1, cp1, rfl⟩ := own_slice2 hp.slots
     have hN12 : 12 * k ≤ 900 := by omega
     have hk12 : k ≤ 12 := by omega
     have h1R : 2 < w.heap.size + 1 := by omega
     clear hx hxb hp hpa hba
     go_wp2
     go_region_law (first
      | (go_simp; go_at_call 83; refine (place_any (w.heap.size + 1) (w1.heap.size + 1) w1.heap.size k _ v2 s sl (12 * k) hN12 h1R HBD.out hk12 z fc el hz1' hz6' _ (by first | exact HTA.out | exact HTA.out.drew) (by first | exact HPA.out | exact HPA.out.drew)).mono ?_; rintro e w5 ⟨v2', rfl, hp5, hb5⟩; have d2 := hp5.cells.2.2.1; have d2a := (fun o => (hp5.alloc o).cells.2.2.1); have hr5 := hp5.rs; have HP5 := Lib.hid hp5; have HB5 := Lib.hid hb5; clear hp5 hb5)
      | (refine step_append_own rfl (.tmp 26) (.tmp 31) 57 rfl (w.heap.size + 1) slotT i0 (.agg #[.int .i64 0]) 1 8 Tryz.underlying57 hi hz0 hz1 hz2 rfl (by decide) (.slice A1 sl.length cp1) sl.length _ (by simp [Act.eval]) (HP5.out.slots.alloc _) ⟨w5.heap.size, 0, none⟩ 1 1 [_] (by simp [Act.eval]) rfl (cell_one_new _ _ _) (by simp [Value.oneCell']) (by unfold maxLen; omega) (by omega) (by simp; omega) ?_; intro v' w6 hown6 hgrow6; obtain ⟨A', cap', rfl⟩ := own_slice2 hown6.out; have r6 := HP5.out.grown_row HP5.out.slots (by decide) hgrow6.out; have f6' := row_free r6 2; have c6' : w6.cell? ⟨w1.heap.size + 1, 2, none⟩ = some (.slice A1 sl.length cp1) := (by rw [cell_of_row _ _ _ _ _ _ r6]; rfl); clear r6))
     all_goals
      have hdn := HP5.out.slot_done (a := (placeF ⟨z, fc, el⟩ s).1) hgrow6.out hown6.out
      have HPD := Lib.hid hdn.1
      have HBN := Lib.hid (HBA.out.trans ((drew_below _ _).trans (HB5.out.trans hdn.2)))
      clear hdn hown6 hgrow6 d2 d2a f6' c6' hA2
      go_wp2
      go_roundw
      case rel => exact ⟨k + 1, by go_num, by omega, by rw [HTK.out]; exact Lib.hid ⟨_, _, HPD.out.mono (by omega)⟩, HBN⟩
      case measure => simp [intOf]; omega
   · obtain rfl : k = l.length := by omega
     have hkw : wr.heap[w.heap.size]? = some (.cells #[.int .i64 0, .int .i64 0, .slice none 0 0, .int .i64 0] 59 (0, 0)) := (HB.out.block w.heap.size (by omega)).trans (heap_alloc_new _ _)
     have htl : l.take l.length = l := List.take_of_length_le (Nat.le_refl _)
     rw [htl] at HP
     obtain ⟨v1, v2, hp⟩ := HP.out
     obtain ⟨p0, p1, p2, p3, -⟩ := hp.cells
     obtain ⟨A1, cp1, rfl⟩ := own_slice2 hp.slots
     obtain ⟨g0, g1, g2, g3⟩ := cells4 hkw
     have fz := row_free hkw
     have hltw := row_lt hkw
     have HKW := Lib.hid hkw
     have hv := hp.slots
     rw [lay_length] at hv p2
     have HV := Lib.hid hv
     have hll := lay_length l ps0
     clear hp hkw hv htl
     go_wp2
     obtain ⟨wf, e, hr, hg⟩ := store4 HKW.out (.int .i64 ((layF l ps0).2.ls.words : Int)) (.int .i64 ((layF l ps0).2.ptrs : Int)) (.slice A1 l.length cp1) (.int .i64 (layF l ps0).2.tag)
     rw [e]
     obtain ⟨r0, r1, r2, r3⟩ := cells4 hr
     refine bodyPost_ret (v := .tuple #[layV l (.slice A1 l.length cp1), .bool true]) (by simp [results, Tryz.results63, go_sem, r0, r1, r2, r3, layV]) rfl (.inl ⟨HOK.out, _, rfl, ?_, ?_⟩)
     · exact (own_weak HV.out (Nat.le_succ _)).kept hg (.inr (own_ne_blk HV.out HKW.out (by decide)))
     · exact grown_below_b (HAL.out.trans (HB.out.mono (by omega))) hg (Nat.le_refl _) (Nat.le_of_lt hltw)
def isRec (n : Nd) : Bool := decide (n.kind ≠ 2) && nodeOk n
theorem isRecord_a (m : Nat) (n : Nd) (h : Hd) (w : World) (S : Nat → Prop) (hn : NdAt w S m n h) (ht : totN m n ≤ 2000000) :
 Calls Tryz.prog 64 #[.agg #[.int .i64 n.kind, .string n.data, .slice h.A n.ptrs.length h.a, .int .i64 n.size, .int .i64 n.count, .slice h.B n.items.length h.b]] w fun e w' => e = .returned (.bool (isRec n)) ∧ Below w.heap.size w w' := by
 have hb0 := (Below.refl w.heap.size w).alloc (Nat.le_refl _) (.cells #[.int .i64 n.kind, .string n.data, .slice h.A n.ptrs.length h.a, .int .i64 n.size, .int .i64 n.count, .slice h.B n.items.length h.b] nodeT)
 have HC := Lib.hid (implNodeOk_a m n h _ S (hn.below hb0) ht)
 have HB0 := Lib.hid hb0
 clear hn ht hb0
 by_cases hk : n.kind = 2
 · have HX : Hid (isRec n = false) := Lib.hid (by unfold isRec; rw [decide_eq_false (by omega)]; rfl)
   have hb : (n.kind != 2) = false := by simp [hk]
   clear hk HC
   go_enter Tryz.func64, Tryz.ntmps64
   go_wp2_with fail
   go_ret
   exact ⟨by rw [HX.out]; rfl, HB0.out⟩
 · have HX : Hid (isRec n = nodeOk n) := Lib.hid (by unfold isRec; rw [decide_eq_true hk, Bool.true_and])
   have hb : (n.kind != 2) = true := by simp [hk]
   generalize nodeOk n = ok at *
   clear hk
   go_enter Tryz.func64, Tryz.ntmps64
   go_wp2_with fail
   refine HC.out.mono ?_
   rintro e w2 ⟨rfl, hb2⟩
   have HB2 := Lib.hid (HB0.out.trans (hb2.mono HB0.out.size))
   clear hb2
   go_wp2
   go_ret
   exact ⟨by rw [HX.out]; rfl, HB2.out⟩
abbrev recT : TypeId := 72
def recB (l : List Fld) (n : Nd) : Bool := fldsOk l && isRec n
def tagL (l : List Fld) : Int := (layF l ps0).2.tag
theorem tagL_bd {l : List Fld} (h : fldsOk l = true) : -1 ≤ tagL l ∧ tagL l < 100 := by
 have h1 := lay_pbd l l.length (Nat.le_refl _)
 rw [List.take_length] at h1
 have h2 := fldsOk_len h
 have h3 := h1.tag
 unfold tagL
 omega
def recV (A : Option Addr) (len c : Nat) (l : List Fld) (v1 : Value) (n : Nd) (h : Hd) : Value :=
 .agg #[.slice A len c, .int .i64 ((layF l ps0).2.ls.words : Int), .int .i64 ((layF l ps0).2.ptrs : Int), v1, .int .i64 (tagL l), .int .i64 n.kind, .string n.data, .slice h.A n.ptrs.length h.a, .int .i64 n.size, .int .i64 n.count, .slice h.B n.items.length h.b]
def zero11 : Value := .agg #[.slice none 0 0, .int .i64 0, .int .i64 0, .slice none 0 0, .int .i64 0, .int .i64 0, .string ⟨#[]⟩, .slice none 0 0, .int .i64 0, .int .i64 0, .slice none 0 0]
theorem own_or_none (v : Value) : v.ownBlock = none ∨ v.ownBlock ≠ none := by
 cases v.ownBlock with
 | none => exact .inl rfl
 | some x => exact .inr (by simp)
def RecByP (l : List Fld) (A : Option Addr) (c : Nat) (n : Nd) (h : Hd) (w : World) (e : Ending) (w' : World) : Prop :=
 (recB l n = true ∧ ∃ v1, e = .returned (.tuple #[recV A l.length c l v1 n h, .bool true]) ∧ w'.ownsRow w.heap.size slotT 1 v1 l.length (slotCells (layF l ps0).1) ∧ Below w.heap.size w w') ∨
 (recB l n = false ∧ e = .returned (.tuple #[zero11, .bool false]) ∧ Below w.heap.size w w')
theorem recordBy_a (A : Option Addr) (c : Nat) (l : List Fld) (m : Nat) (n : Nd) (h : Hd) (w : World) (S : Nat → Prop) (ht : Tab w) (h1w : 2 < w.heap.size) (hl : Flds w A l) (hll : l.length ≤ 10000000) (hn : NdAt w S m n h) (htn : totN m n ≤ 2000000) :
 Calls Tryz.prog 35 #[.slice A l.length c, .agg #[.int .i64 n.kind, .string n.data, .slice h.A n.ptrs.length h.a, .int .i64 n.size, .int .i64 n.count, .slice h.B n.items.length h.b]] w (RecByP l A c n h w) := by
 have hax : (w.alloc (.cells #[.int .i64 n.kind, .string n.data, .slice h.A n.ptrs.length h.a, .int .i64 n.size, .int .i64 n.count, .slice h.B n.items.length h.b] nodeT)).heap.size = w.heap.size + 1 := by simp
 have hbx : Below w.heap.size w ((w.alloc (.cells #[.int .i64 n.kind, .string n.data, .slice h.A n.ptrs.length h.a, .int .i64 n.size, .int .i64 n.count, .slice h.B n.items.length h.b] nodeT)).alloc (.cells #[.slice none 0 0, .int .i64 0, .int .i64 0, .slice none 0 0, .int .i64 0, .int .i64 0, .string { data := #[] }, .slice none 0 0, .int .i64 0, .int .i64 0, .slice none 0 0] recT)) := ((Below.refl _ _).alloc (Nat.le_refl _) _).alloc (by simp) _
 have hg0 : ((w.alloc (.cells #[.int .i64 n.kind, .string n.data, .slice h.A n.ptrs.length h.a, .int .i64 n.size, .int .i64 n.count, .slice h.B n.items.length h.b] nodeT)).alloc (.cells #[.slice none 0 0, .int .i64 0, .int .i64 0, .slice none 0 0, .int .i64 0, .int .i64 0, .string { data := #[] }, .slice none 0 0, .int .i64 0, .int .i64 0, .slice none 0 0] recT)).heap[w.heap.size]? = some (.cells #[.int .i64 n.kind, .string n.data, .slice h.A n.ptrs.length h.a, .int .i64 n.size, .int .i64 n.count, .slice h.B n.items.length h.b] nodeT (0, 0)) := heap_alloc_keep (heap_alloc_new w _) _
 have hg1 : ((w.alloc (.cells #[.int .i64 n.kind, .string n.data, .slice h.A n.ptrs.length h.a, .int .i64 n.size, .int .i64 n.count, .slice h.B n.items.length h.b] nodeT)).alloc (.cells #[.slice none 0 0, .int .i64 0, .int .i64 0, .slice none 0 0, .int .i64 0, .int .i64 0, .string { data := #[] }, .slice none 0 0, .int .i64 0, .int .i64 0, .slice none 0 0] recT)).heap[w.heap.size + 1]? = some (.cells #[.slice none 0 0, .int .i64 0, .int .i64 0, .slice none 0 0, .int .i64 0, .int .i64 0, .string { data := #[] }, .slice none 0 0, .int .i64 0, .int .i64 0, .slice none 0 0] recT (0, 0)) := hax ▸ heap_alloc_new _ _
 have HB0 := Lib.hid hbx
 have HG0 := Lib.hid hg0
 have HG1 := Lib.hid hg1
 have HT := Lib.hid ht
 have HL := Lib.hid hl
 have HN := Lib.hid hn
 have HTN := Lib.hid htn
 clear hbx hg0 hg1 ht hl hn htn hax
 go_enter Tryz.func35, Tryz.ntmps35
 go_wp2_with fail
 generalize ((w.alloc (.cells #[.int .i64 n.kind, .string n.data, .slice h.A n.ptrs.length h.a, .int .i64 n.size, .int .i64 n.count, .slice h.B n.items.length h.b] nodeT)).alloc (.cells #[.slice none 0 0, .int .i64 0, .int .i64 0, .slice none 0 0, .int .i64 0, .int .i64 0, .string { data := #[] }, .slice none 0 0, .int .i64 0, .int .i64 0, .slice none 0 0] recT)) = W at *
 have hsW := HB0.out.size
 refine (implLayoutOf_any A c l W (HT.out.below HB0.out h1w) (by omega) (HL.out.below HB0.out) hll).mono ?_
 intro e w1 hLay
 rcases hLay with ⟨hok, v1, rfl, hown, hb1⟩ | ⟨hok, rfl, hb1⟩
 · obtain ⟨A1, cp1, rfl⟩ := own_slice2 hown
   unfold layV
   have HX0 := Lib.hid (heap_alloc_new w1 (.cells #[.int .i64 ((layF l ps0).2.ls.words : Int), .int .i64 ((layF l ps0).2.ptrs : Int), (.slice A1 l.length cp1), .int .i64 (layF l ps0).2.tag] 59))
   have hb2 := (Below.refl w1.heap.size w1).alloc (Nat.le_refl _) (.cells #[.int .i64 ((layF l ps0).2.ls.words : Int), .int .i64 ((layF l ps0).2.ptrs : Int), (.slice A1 l.length cp1), .int .i64 (layF l ps0).2.tag] 59)
   have hs1 := hb1.size
   have HL0 := Lib.hid (row_lt HG0.out)
   have HL1 := Lib.hid (row_lt HG1.out)
   have hr0 := (hb2.block _ (by have := HL0.out; omega)).trans ((hb1.block _ HL0.out).trans HG0.out)
   have hr1 := (hb2.block _ (by have := HL1.out; omega)).trans ((hb1.block _ HL1.out).trans HG1.out)
   have HR0 := Lib.hid hr0
   have HR1 := Lib.hid hr1
   have HB2 := Lib.hid ((HB0.out.trans (hb1.mono hsW)).trans (hb2.mono (by omega)))
   have HOWN := Lib.hid ((own_weak hown hsW).alloc (.cells #[.int .i64 ((layF l ps0).2.ls.words : Int), .int .i64 ((layF l ps0).2.ptrs : Int), (.slice A1 l.length cp1), .int .i64 (layF l ps0).2.tag] 59))
   obtain ⟨a0, a1, a2, a3, a4, a5⟩ := cells6 hr0
   have HOK := Lib.hid hok
   have HTG : Hid (tagL l = (layF l ps0).2.tag) := Lib.hid rfl
   clear hb1 hb2 hown hr0 hr1 hok
   go_wp2_with fail
   clear a0 a1 a2 a3 a4 a5
   generalize w1.alloc (.cells #[.int .i64 ((layF l ps0).2.ls.words : Int), .int .i64 ((layF l ps0).2.ptrs : Int), (.slice A1 l.length cp1), .int .i64 (layF l ps0).2.tag] 59) = W5 at *
   have HC := Lib.hid (isRecord_a m n h W5 S (HN.out.below HB2.out) HTN.out)
   have hs5 := HB2.out.size
   cases hrec : isRec n
   · have HRF : Hid (recB l n = false) := Lib.hid (by unfold recB; rw [hrec, Bool.and_false])
     rw [hrec] at HC
     clear hrec
     refine HC.out.mono ?_
     rintro e w6 ⟨rfl, hb6⟩
     have HB6 := Lib.hid (HB2.out.trans (hb6.mono hs5))
     have hr := (hb6.block _ (row_lt HR1.out)).trans HR1.out
     have HR := Lib.hid hr
     obtain ⟨z0, z1, z2, z3, z4, z5, z6, z7, z8, z9, z10⟩ := cells11 hr
     have zf := row_free hr
     clear hb6 hr
     go_wp2_with fail
     obtain ⟨wf, hwf, hrw, hbf, -, -⟩ := fin11 (R := w.heap.size) (.slice none 0 0) (.int .i64 0) (.int .i64 0) (.slice none 0 0) (.int .i64 0) (.int .i64 0) (.string ⟨#[]⟩) (.slice none 0 0) (.int .i64 0) (.int .i64 0) (.slice none 0 0) HR.out HB6.out (by omega)
     rw [hwf]
     obtain ⟨e0, e1, e2, e3, e4, e5, e6, e7, e8, e9, e10⟩ := cells11 hrw
     exact bodyPost_ret (v := .tuple #[zero11, .bool false]) (by simp [results, Tryz.results35, go_sem, zero11, e0, e1, e2, e3, e4, e5, e6, e7, e8, e9, e10]) rfl (.inr ⟨HRF.out, rfl, hbf⟩)
   · have HRF : Hid (recB l n = true) := Lib.hid (by unfold recB; rw [hrec, HOK.out]; rfl)
     rw [hrec] at HC
     clear hrec
     refine HC.out.mono ?_
     rintro e w6 ⟨rfl, hb6⟩
     have HB6 := Lib.hid (HB2.out.trans (hb6.mono hs5))
     have hr := (hb6.block _ (row_lt HR1.out)).trans HR1.out
     have hr0 := (hb6.block _ (row_lt HR0.out)).trans HR0.out
     have hx0 := (hb6.block _ (row_lt HX0.out)).trans HX0.out
     have HR := Lib.hid hr
     have HOWN6 := Lib.hid (HOWN.out.kept (row := none) ⟨hb6.os, hb6.tape, hb6.output, hb6.size, fun k hk _ => hb6.block k hk⟩ (own_or_none _))
     obtain ⟨z0, z1, z2, z3, z4, z5, z6, z7, z8, z9, z10⟩ := cells11 hr
     obtain ⟨a0, a1, a2, a3, a4, a5⟩ := cells6 hr0
     obtain ⟨y0, y1, y2, y3⟩ := cells4 hx0
     have zf := row_free hr
     clear hb6 hr hr0 hx0
     go_wp2_with fail
     obtain ⟨wf, hwf, hrw, hbf, -, hgf⟩ := fin11 (R := w.heap.size) (.slice A l.length c) (.int .i64 ((layF l ps0).2.ls.words : Int)) (.int .i64 ((layF l ps0).2.ptrs : Int)) (.slice A1 l.length cp1) (.int .i64 (layF l ps0).2.tag) (.int .i64 n.kind) (.string n.data) (.slice h.A n.ptrs.length h.a) (.int .i64 n.size) (.int .i64 n.count) (.slice h.B n.items.length h.b) HR.out HB6.out (by omega)
     rw [hwf]
     obtain ⟨e0, e1, e2, e3, e4, e5, e6, e7, e8, e9, e10⟩ := cells11 hrw
     exact bodyPost_ret (v := .tuple #[recV A l.length c l (.slice A1 l.length cp1) n h, .bool true]) (by simp [results, Tryz.results35, go_sem, recV, HTG.out, e0, e1, e2, e3, e4, e5, e6, e7, e8, e9, e10]) rfl (.inl ⟨HRF.out, _, rfl, HOWN6.out.kept hgf (.inr (own_ne_blk HOWN6.out HR.out (by decide))), hbf⟩)
 · have HOK := Lib.hid hok
   have HRF : Hid (recB l n = false) := Lib.hid (by unfold recB; rw [hok, Bool.false_and])
   have HX0 := Lib.hid (heap_alloc_new w1 (.cells #[.int .i64 0, .int .i64 0, .slice none 0 0, .int .i64 0] 59))
   have hb2 := (Below.refl w1.heap.size w1).alloc (Nat.le_refl _) (.cells #[.int .i64 0, .int .i64 0, .slice none 0 0, .int .i64 0] 59)
   have HL1 := Lib.hid (row_lt HG1.out)
   have hs1 := hb1.size
   have hr := (hb2.block _ (by have := HL1.out; omega)).trans ((hb1.block _ HL1.out).trans HG1.out)
   have HR := Lib.hid hr
   have HB6 := Lib.hid ((HB0.out.trans (hb1.mono hsW)).trans (hb2.mono (by omega)))
   obtain ⟨z0, z1, z2, z3, z4, z5, z6, z7, z8, z9, z10⟩ := cells11 hr
   have zf := row_free hr
   clear hb1 hb2 hok hr
   go_wp2_with fail
   obtain ⟨wf, hwf, hrw, hbf, -, -⟩ := fin11 (R := w.heap.size) (.slice none 0 0) (.int .i64 0) (.int .i64 0) (.slice none 0 0) (.int .i64 0) (.int .i64 0) (.string ⟨#[]⟩) (.slice none 0 0) (.int .i64 0) (.int .i64 0) (.slice none 0 0) HR.out HB6.out (by omega)
   rw [hwf]
   obtain ⟨e0, e1, e2, e3, e4, e5, e6, e7, e8, e9, e10⟩ := cells11 hrw
   exact bodyPost_ret (v := .tuple #[zero11, .bool false]) (by simp [results, Tryz.results35, go_sem, zero11, e0, e1, e2, e3, e4, e5, e6, e7, e8, e9, e10]) rfl (.inr ⟨HRF.out, rfl, hbf⟩)
def RecAt (w : World) (g : Nat) (A : Option Addr) (len c : Nat) (l : List Fld) (v1 : Value) (n : Nd) (h : Hd) : Prop :=
 w.heap[g]? = some (.cells #[.slice A len c, .int .i64 ((layF l ps0).2.ls.words : Int), .int .i64 ((layF l ps0).2.ptrs : Int), v1, .int .i64 (tagL l), .int .i64 n.kind, .string n.data, .slice h.A n.ptrs.length h.a, .int .i64 n.size, .int .i64 n.count, .slice h.B n.items.length h.b] recT (0, 0))
theorem put_any (l : List UInt8) (at_ size n : Int) (w : World) (hl : l.length = 8) (h0 : 0 ≤ at_) (h1 : 0 ≤ size) (h2 : at_ + size ≤ 8) (hn0 : 0 ≤ n) (hn1 : n < 18446744073709551616) :
 Calls Tryz.prog 137 #[.agg (wd l), .int .i64 at_, .int .i64 size, .int .u64 n] w fun e w' => e = .returned (.agg (wd (putL l at_.toNat (leB n size.toNat)))) ∧ Below w.heap.size w w' := by
 obtain ⟨a, rfl⟩ := Int.eq_ofNat_of_zero_le h0
 obtain ⟨z, rfl⟩ := Int.eq_ofNat_of_zero_le h1
 have HL := Lib.hid hl
 clear hl
 go_enter Tryz.func137, Tryz.ntmps137
 go_wp2
 go_loopw [3, 9] (fun m i wr => ∃ k : Nat, k ≤ z ∧ i = .int .i64 ((a : Int) + k) ∧ m = .int .u64 (shr8 n k) ∧ Hid (wr.heap[w.heap.size]? = some (.cells (wd (putL l a (leB n k))) 167 (0, 0))) ∧ Hid (wr.heap[w.heap.size + 1]? = some (.cells #[.int .u8 0, .int .u8 0, .int .u8 0, .int .u8 0, .int .u8 0, .int .u8 0, .int .u8 0, .int .u8 0] 167 (0, 0))) ∧ Hid (Below w.heap.size w wr)) (fun _ i _ => (a + z - intOf i).toNat)
 case atStart =>
  refine ⟨0, by omega, by simp, rfl, ?_, ?_, ?_⟩
  · rw [leB, putL_nil]; exact heap_alloc2_old w _ _
  · exact heap_alloc2_new w _ _
  · exact ((Below.refl _ _).alloc (Nat.le_refl _) _).alloc (by simp) _
 case round =>
  obtain ⟨k, hk, rfl, rfl, HW, HZ, HB⟩ := hrel
  have hbd := shr8_bd n k hn0 hn1
  obtain ⟨hb0, hb1⟩ := hbd
  by_cases hlt : k < z
  · have hcell := wd_cell_row HW.out (a + k) (by rw [putL_length _ _ _ (by rw [leB_length, HL.out]; omega), HL.out]; omega)
    have hfr := frozen_row HW.out (a + k)
    go_wp2
    go_roundw
    case rel =>
     exact ⟨k + 1, by omega, by go_num, rfl, put_step l a n k (by rw [HL.out]; omega) HW.out, heap_set_far _ (by omega) HZ.out, HB.out.setCell (Nat.le_refl _) _⟩
    case measure => simp [intOf]; omega
  · obtain rfl : k = z := by omega
    have hpl : (putL l a (leB n k)).length = 8 := by rw [putL_length _ _ _ (by rw [leB_length, HL.out]; omega), HL.out]
    have HP := Lib.hid hpl
    clear hpl
    go_wp2_with (first | (refine wpList_load_wd rfl 167 (.tmp 4) rfl w.heap.size rfl 167 _ _ HW.out Tryz.underlying167 rfl (by rw [HP.out]; exact size46) ?_) | (refine wpList_store_wd rfl 167 (.tmp 8) (.tmp 24) rfl (w.heap.size + 1) _ rfl rfl 167 _ HZ.out (by rw [HP.out]; exact size46) (by rw [HP.out]; rfl) ?_; intro w5 hg5 hb5))
    refine bodyPost_ret (v := .agg (wd (putL l a (leB n k)))) ?_ rfl ⟨by simp, HB.out.grown hb5.out (by have := HB.out.size; omega) (fun k e => by cases e; simp)⟩
    exact results_cell_row rfl _ _ (w.heap.size + 1) 167 _ (0, 0) _ rfl hg5.out Tryz.underlying167 rfl (by rw [wd_size, HP.out]; exact size46)
theorem text_any (l : List UInt8) (w : World) (hl : l.length = 8) :
 Calls Tryz.prog 145 #[.agg (wd l)] w fun e w' => e = .returned (.string ⟨l.toArray⟩) ∧ Below w.heap.size w w' := by
 have hrow := heap_alloc_new w (.cells (wd l) 167)
 have hcv : (convert 123 9 (.slice (some ⟨w.heap.size, 0, none⟩) 8 8)).run Tryz.prog (w.alloc (.cells (wd l) 167)) = .ok (.string ⟨l.toArray⟩) (w.alloc (.cells (wd l) 167)) := by
  exact convert_wd _ _ _ _ _ _ 8 l hl Tryz.underlying123 Tryz.underlying5 Tryz.underlying9 hrow (by rw [List.take_of_length_le (by simp [wd, Lib.byteCells_length, hl])]; simp [wd])
 have HL := Lib.hid hl
 clear hl hrow
 go_enter Tryz.func145, Tryz.ntmps145
 go_wp2
 go_ret
 exact ⟨rfl, (Below.refl _ _).alloc (Nat.le_refl _) _⟩
theorem text_lit (b0 b1 b2 b3 b4 b5 b6 b7 : UInt8) (w : World) :
 Calls Tryz.prog 145 #[.agg #[.int .u8 b0.toNat, .int .u8 b1.toNat, .int .u8 b2.toNat, .int .u8 b3.toNat, .int .u8 b4.toNat, .int .u8 b5.toNat, .int .u8 b6.toNat, .int .u8 b7.toNat]] w fun e w' =>
  e = .returned (.string ⟨#[b0, b1, b2, b3, b4, b5, b6, b7]⟩) ∧ Below w.heap.size w w' := text_any [b0, b1, b2, b3, b4, b5, b6, b7] w rfl
theorem ba_append (a b : ByteArray) : (a ++ b).data.toList = a.data.toList ++ b.data.toList := by simp
theorem put_string (s : ByteArray) (a : Nat) (l : List UInt8) (n : Nat) (hn : l.length = n) (h : a + n ≤ s.size) :
 s.extract 0 a ++ ⟨l.toArray⟩ ++ s.extract (a + n) s.size = ⟨(putL s.data.toList a l).toArray⟩ := by
 subst hn
 apply ext_ba
 rw [ba_append, ba_append, Lib.extract_data, Lib.extract_data]
 simp [putL, List.take_of_length_le]
theorem withWord_any (s : ByteArray) (i : Int) (l : List UInt8) (w : World) (hs : s.size ≤ maxLen) (h0 : 0 ≤ i) (hi : 8 * i + 8 ≤ s.size) (hl : l.length = 8) :
 Calls Tryz.prog 133 #[.string s, .int .i64 i, .agg (wd l)] w fun e w' => e = .returned (.string ⟨(putL s.data.toList (8 * i.toNat) l).toArray⟩) ∧ Below w.heap.size w w' := by
 obtain ⟨i, rfl⟩ := Int.eq_ofNat_of_zero_le h0
 unfold maxLen at hs
 obtain ⟨b0, b1, b2, b3, b4, b5, b6, b7, rfl⟩ := len8 hl
 have hfin := put_string s (8 * (i : Int).toNat) [b0, b1, b2, b3, b4, b5, b6, b7] 8 rfl (by omega)
 rw [← hfin, wd8, show 8 * (i : Int).toNat = i * 8 by omega]
 clear hfin hl
 have e1 : IntKind.i64.wrap ((i : Int) * 8) = (i : Int) * 8 := by rw [IntKind.wrap_i64]; omega
 have e2 : (0 : Int) ≤ (i : Int) * 8 := by omega
 have e3 : (i : Int) * 8 ≤ (s.size : Int) := by omega
 have e4 : ((i : Int) * 8).toNat = i * 8 := by omega
 have e5 : IntKind.i64.wrap ((i : Int) * 8 + 8) = (i : Int) * 8 + 8 := by rw [IntKind.wrap_i64]; omega
 have e6 : (0 : Int) ≤ (i : Int) * 8 + 8 := by omega
 have e7 : (i : Int) * 8 + 8 ≤ (s.size : Int) := by omega
 have e8 : ((i : Int) * 8 + 8).toNat = i * 8 + 8 := by omega
 have em : min (i * 8) s.size = i * 8 := by omega
 have f1 : ¬ 9223372036854775807 < i * 8 + 8 := by omega
 have f2 : ¬ 9223372036854775807 < i * 8 + 8 + (s.size - (i * 8 + 8)) := by omega
 go_enter Tryz.func133, Tryz.ntmps133
 go_wp2
 go_region_law (first | (go_simp; go_at_call 145; refine (text_lit _ _ _ _ _ _ _ _ _).mono ?_; rintro e w5 ⟨rfl, hb5⟩))
 all_goals
  clear e1 e2 e3 e4 e5 e6 e7 e8 em f1 f2
  have hB : Hid (Below w.heap.size w w5) := ((Below.refl w.heap.size w).alloc (Nat.le_refl _) _).drew.trans (hb5.mono (by simp))
  clear hb5
  go_wp2
  go_ret
  exact ⟨rfl, hB.out⟩
theorem leB_mod (n m : Int) : ∀ (k : Nat) (c : Int), n = m + c * 256 ^ k → leB n k = leB m k
 | 0, _, _ => rfl
 | k + 1, c, h => by
   have e : n = m + 256 * (c * 256 ^ k) := by rw [h, Int.pow_succ, Int.mul_comm (256 ^ k) 256, ← Int.mul_assoc, Int.mul_comm c 256, Int.mul_assoc]
   rw [leB, leB, leB_mod (n / 256) (m / 256) k c (by omega), show n % 256 = m % 256 by omega]
theorem leB_u64 (n : Int) (k : Nat) (hk : k ≤ 8) : leB (IntKind.u64.wrap n) k = leB n k := by
 rw [IntKind.wrap_u64]
 obtain ⟨j, hj⟩ : ∃ j, 8 = k + j := ⟨8 - k, by omega⟩
 refine (leB_mod n _ k (n / 18446744073709551616 * 256 ^ j) ?_).symm
 have h8 : (18446744073709551616 : Int) = 256 ^ j * 256 ^ k := by
  rw [← Int.pow_add, show j + k = 8 by omega]; rfl
 rw [Int.mul_assoc, ← h8]
 omega
theorem putL_word (l : List UInt8) (q r : Nat) (xs : List UInt8) (h1 : r + xs.length ≤ 8) (h2 : 8 * q + 8 ≤ l.length) :
 putL l (8 * q) (putL ((l.drop (8 * q)).take 8) r xs) = putL l (8 * q + r) xs := by
 have hl : ((l.drop (8 * q)).take 8).length = 8 := by simp; omega
 have hp : (putL ((l.drop (8 * q)).take 8) r xs).length = 8 := by rw [putL_length _ _ _ (by omega), hl]
 rw [putL, hp, putL, putL]
 have e1 : l.take (8 * q) ++ ((l.drop (8 * q)).take 8).take r = l.take (8 * q + r) := by
  rw [List.take_take, Nat.min_eq_left (by omega), ← List.take_add]
 have e2 : ((l.drop (8 * q)).take 8).drop (r + xs.length) ++ l.drop (8 * q + 8) = l.drop (8 * q + r + xs.length) := by
  have h := List.take_append_drop (8 - (r + xs.length)) (l.drop (8 * q + r + xs.length))
  rw [List.drop_drop, show 8 * q + r + xs.length + (8 - (r + xs.length)) = 8 * q + 8 by omega] at h
  rw [List.drop_take, List.drop_drop, show 8 * q + (r + xs.length) = 8 * q + r + xs.length by omega]
  exact h
 simp only [← List.append_assoc]
 rw [e1]
 simp only [List.append_assoc]
 rw [e2]
def putOk (l : List UInt8) (at_ size n : Int) : Bool := placeB at_ size && (decide (at_ < l.length) && fitsB n size)
def putT (l : List UInt8) (at_ size n : Int) : List UInt8 := if wordsB l.length = true then (if putOk l at_ size n = true then putL l at_.toNat (leB n size.toNat) else l) else []
def putB (l : List UInt8) (at_ size n : Int) : Bool := wordsB l.length && putOk l at_ size n
theorem ba_eta (s : ByteArray) : (⟨s.data.toList.toArray⟩ : ByteArray) = s := by cases s; simp
theorem implPut_any (s : ByteArray) (at_ size n : Int) (w : World) (hs : s.size ≤ maxLen) (hn : -9223372036854775808 ≤ n ∧ n ≤ 9223372036854775807) :
 Calls Tryz.prog 115 #[.string s, .int .i64 at_, .int .i64 size, .int .i64 n] w fun e w' =>
  e = .returned (.tuple #[.string ⟨(putT s.data.toList at_ size n).toArray⟩, .bool (putB s.data.toList at_ size n)]) ∧ Below w.heap.size w w' := by
 have hsl : s.data.toList.length = s.size := by simp
 cases hw : wordsB s.size
 · have hT : putT s.data.toList at_ size n = [] := by rw [putT, hsl, hw, if_neg (by simp)]
   have hB : putB s.data.toList at_ size n = false := by rw [putB, hsl, hw, Bool.false_and]
   rw [hT, hB]
   clear hT hB hsl
   go_enter Tryz.func115, Tryz.ntmps115
   go_wp2_with (first | (go_at_call 128; refine (isWords_any _ _ hs).mono ?_; rintro e w' ⟨rfl, rfl⟩))
   go_ret2
   exact ⟨rfl, Below.refl _ _⟩
 have hno : putOk s.data.toList at_ size n = false → putT s.data.toList at_ size n = s.data.toList ∧ putB s.data.toList at_ size n = false := fun h => by
  rw [putT, putB, hsl, hw, h, if_pos rfl, if_neg (by simp)]; exact ⟨rfl, rfl⟩
 cases hp : placeB at_ size
 · obtain ⟨hT, hB⟩ := hno (by rw [putOk, hp, Bool.false_and])
   rw [hT, hB, ba_eta]
   clear hT hB hno hsl
   go_enter Tryz.func115, Tryz.ntmps115
   go_wp2_with (first | (go_at_call 128; refine (isWords_any _ _ hs).mono ?_; rintro e w' ⟨rfl, rfl⟩) | (go_at_call 134; refine (isPlace_any _ _ _).mono ?_; rintro e w' ⟨rfl, rfl⟩))
   go_ret2
   exact ⟨rfl, Below.refl _ _⟩
 have hp' : 0 ≤ at_ ∧ at_ ≤ 1600 ∧ ((size = 1 ∨ size = 2 ∨ size = 4 ∨ size = 8) ∧ at_ % size = 0) := by simpa [placeB] using hp
 obtain ⟨ha0, ha1, hz, hm⟩ := hp'
 have hw8 : s.size % 8 = 0 ∧ s.size ≤ 1600 := by simpa [wordsB] using hw
 obtain ⟨hw1, hw2⟩ := hw8
 obtain ⟨a, rfl⟩ := Int.eq_ofNat_of_zero_le ha0
 by_cases hin : a < s.size
 · cases hf : fitsB n size
   · obtain ⟨hT, hB⟩ := hno (by rw [putOk, hf, Bool.and_false, Bool.and_false])
     rw [hT, hB, ba_eta]
     clear hT hB hno hsl hm
     go_enter Tryz.func115, Tryz.ntmps115
     go_wp2_with (first | (go_at_call 128; refine (isWords_any _ _ hs).mono ?_; rintro e w' ⟨rfl, rfl⟩) | (go_at_call 134; refine (isPlace_any _ _ _).mono ?_; rintro e w' ⟨rfl, rfl⟩) | (go_at_call 136; refine (fitsBytes_any _ _ _ hz hn).mono ?_; rintro e w' ⟨rfl, rfl⟩))
     go_ret2
     exact ⟨rfl, Below.refl _ _⟩
   · have hok : putOk s.data.toList a size n = true := by rw [putOk, hp, hf, hsl]; simpa using hin
     have hT : putT s.data.toList a size n = putL s.data.toList a (leB n size.toNat) := by rw [putT, hsl, hw, hok, if_pos rfl, if_pos rfl]; rfl
     have hB : putB s.data.toList a size n = true := by rw [putB, hsl, hw, hok]; rfl
     have hlen : ((s.data.toList.drop (8 * (a / 8))).take 8).length = 8 := by simp; omega
     have hsum : (a % 8 : Nat) + size ≤ 8 := by rcases hz with rfl | rfl | rfl | rfl <;> omega
     have hz0 : 0 ≤ size := by omega
     have hN := putL_word s.data.toList (a / 8) (a % 8) (leB n size.toNat) (by rw [leB_length]; omega) (by rw [hsl]; omega)
     rw [show 8 * (a / 8) + a % 8 = a by omega, ← leB_u64 n size.toNat (by omega)] at hN
     rw [hT, hB, ← leB_u64 n size.toNat (by omega), ← hN]
     have hpl : (putL ((s.data.toList.drop (8 * (a / 8))).take 8) (a % 8) (leB (IntKind.u64.wrap n) size.toNat)).length = 8 := by rw [putL_length _ _ _ (by rw [leB_length]; omega), hlen]
     have HL := Lib.hid hlen
     have HP := Lib.hid hpl
     have HM := Lib.hid hm
     have hm0 : 0 ≤ IntKind.u64.wrap n := wrap_u64_nonneg n
     have hm1 : IntKind.u64.wrap n < 18446744073709551616 := by rw [IntKind.wrap_u64]; omega
     clear hN hT hB hlen hsl hm hok hno hpl
     go_enter Tryz.func115, Tryz.ntmps115
     go_wp2_with (first | (go_at_call 128; refine (isWords_any _ _ hs).mono ?_; rintro e w' ⟨rfl, rfl⟩) | (go_at_call 134; refine (isPlace_any _ _ _).mono ?_; rintro e w' ⟨rfl, rfl⟩) | (go_at_call 136; refine (fitsBytes_any _ _ _ hz hn).mono ?_; rintro e w' ⟨rfl, rfl⟩) | (go_at_call 130; go_must (refine (wordAt_any s _ _ hs (by omega) (by omega)).mono ?_); rintro e w1 ⟨rfl, hb1⟩) | (go_at_call 137; go_must (refine (put_any _ _ _ _ _ (by exact HL.out) (by omega) (by omega) (by omega) (by omega) (by omega)).mono ?_); rintro e w2 ⟨rfl, hb2⟩) | (refine wpList_store_wd rfl 167 (.tmp 10) (.tmp 40) rfl w2.heap.size (putL ((s.data.toList.drop (8 * (a / 8))).take 8) (a % 8) (leB (IntKind.u64.wrap n) size.toNat)) rfl rfl 167 _ (heap_alloc_new w2 _) (by rw [HP.out]; exact size46) (by rw [HP.out]; rfl) ?_; intro w3 hg3 hb3) | (refine wpList_load_wd rfl 167 (.tmp 10) rfl w2.heap.size rfl 167 _ _ hg3.out Tryz.underlying167 rfl (by rw [HP.out]; exact size46) ?_) | (go_at_call 133; go_must (refine (withWord_any s _ _ _ hs (by omega) (by omega) HP.out).mono ?_); rintro e w4 ⟨rfl, hb4⟩))
     go_ret2
     refine ⟨rfl, ?_⟩
     have hB2 : Below w.heap.size w w2 := hb1.trans (hb2.mono hb1.size)
     exact ((hB2.alloc hB2.size _).grown hb3.out (by have := hB2.size; simp; omega) (fun k e => by cases e; exact hB2.size)).trans (hb4.mono (by have := hB2.size; have := hb3.out.size; simp at this; omega))
 · obtain ⟨hT, hB⟩ := hno (by rw [putOk, hsl]; simp; intros; omega)
   rw [hT, hB, ba_eta]
   clear hT hB hno hsl hm
   go_enter Tryz.func115, Tryz.ntmps115
   go_wp2_with (first | (go_at_call 128; refine (isWords_any _ _ hs).mono ?_; rintro e w' ⟨rfl, rfl⟩) | (go_at_call 134; refine (isPlace_any _ _ _).mono ?_; rintro e w' ⟨rfl, rfl⟩))
   go_ret2
   exact ⟨rfl, Below.refl _ _⟩
theorem putB_parts {l : List UInt8} {a z n : Int} (h : putB l a z n = true) :
 (l.length % 8 = 0 ∧ l.length ≤ 1600) ∧ placeB a z = true ∧ fitsB n z = true ∧ 0 ≤ a ∧ a.toNat + z.toNat ≤ l.length ∧ (z = 1 ∨ z = 2 ∨ z = 4 ∨ z = 8) := by
 simp only [putB, putOk, Bool.and_eq_true, decide_eq_true_eq] at h
 obtain ⟨hw, hp, hin, hf⟩ := h
 have hw8 : l.length % 8 = 0 ∧ l.length ≤ 1600 := by simpa [wordsB] using hw
 have hp' : 0 ≤ a ∧ a ≤ 1600 ∧ ((z = 1 ∨ z = 2 ∨ z = 4 ∨ z = 8) ∧ a % z = 0) := by simpa [placeB] using hp
 obtain ⟨ha0, ha1, hz, hm⟩ := hp'
 refine ⟨hw8, hp, hf, ha0, ?_, hz⟩
 rcases hz with rfl | rfl | rfl | rfl <;> omega
theorem putT_eq {l : List UInt8} {a z n : Int} (h : putB l a z n = true) : putT l a z n = putL l a.toNat (leB n z.toNat) := by
 simp only [putB, Bool.and_eq_true] at h
 rw [putT, if_pos h.1, if_pos h.2]
theorem putT_length {l : List UInt8} {a z n : Int} (h : putB l a z n = true) : (putT l a z n).length = l.length := by
 obtain ⟨_, _, _, _, hin, _⟩ := putB_parts h
 rw [putT_eq h, putL_length _ _ _ (by rw [leB_length]; exact hin)]
end Go.Proofs.YtehhbbdaeonebaaGreatDoor
