/- Texts of the proof of the law FnRecordOf, side by side: part 17. -/
import Derived.Test.YtblcibgphccfkaaGreatDoorMRecordOf16
set_option maxHeartbeats 8000000
set_option maxRecDepth 100000
namespace Go.Proofs.YtblcibgphccfkaaGreatDoor
open Go.RowKit Go.Deep
theorem finW {w W : World} {g R : Nat} {T : TypeId} {u0 u1 u2 u3 u4 u5 u6 : Value} (v1 v2 v3 v4 v5 v6 : Value) (hz : W.heap[g]? = some (.cells #[u0, u1, u2, u3, u4, u5, u6] T (0, 0))) (hb : Below R w W) (hR : R ≤ g) :
 ∃ wf, ((((((W.setCell ⟨g, 1, none⟩ v1).setCell ⟨g, 2, none⟩ v2).setCell ⟨g, 3, none⟩ v3).setCell ⟨g, 4, none⟩ v4).setCell ⟨g, 5, none⟩ v5).setCell ⟨g, 6, none⟩ v6) = wf ∧ wf.heap[g]? = some (.cells #[u0, v1, v2, v3, v4, v5, v6] T (0, 0)) ∧ Below R w wf ∧ ∀ k, k ≠ g → wf.heap[k]? = W.heap[k]? := by
 have hk : ∀ (V : World) (i : Nat) (v : Value), Below R w V → Below R w (V.setCell ⟨g, i, none⟩ v) := fun V i v hV => hV.setCell (p := ⟨g, i, none⟩) hR v
 have hn : ∀ (V : World) (i : Nat) (v : Value) {k : Nat}, k ≠ g → (V.setCell ⟨g, i, none⟩ v).heap[k]? = V.heap[k]? := fun V i v k h => Below.heap_setCell V ⟨g, i, none⟩ v k h
 refine ⟨_, rfl, ?_, ?_, fun k h => ?_⟩
 · exact row_setN (row_setN (row_setN (row_setN (row_setN (row_setN hz 1 v1) 2 v2) 3 v3) 4 v4) 5 v5) 6 v6
 · exact hk _ _ _ (hk _ _ _ (hk _ _ _ (hk _ _ _ (hk _ _ _ (hk _ _ _ hb)))))
 · rw [hn _ _ _ h, hn _ _ _ h, hn _ _ _ h, hn _ _ _ h, hn _ _ _ h, hn _ _ _ h]
theorem slots_atR {w : World} {B : Nat} {A : Option Addr} {cap : Nat} {l : List Nat} (h : w.ownsRow B slotT 1 (.slice A l.length cap) l.length (slotCells l)) {k : Nat} (hk : k < l.length) :
 ∃ x, A = some x ∧ x.block < w.heap.size ∧ w.cell? (x.add k) = some (.int .i64 ((l.getD k 0 : Nat) : Int)) := by
 obtain ⟨-, x, rfl, hx⟩ := slots_at h hk
 refine ⟨x, rfl, ?_, hx⟩
 have := World.block_lt_of_cell? w _ hx
 rw [addr_block] at this
 exact this
theorem rgI_no (A : Option Addr) (c : Nat) (l : List Fld) (m : Nat) (n : Nd) (h : Hd) (w : World) (S : Nat → Prop) (ht : Tab w) (h1w : 1 < w.heap.size) (hl : Flds w A l) (hll : l.length ≤ 10000000) (hn : NdAt w S m n h) (htn : totN m n ≤ 2000000) (a : Int) (M : Nat) (hno : recB l n = false) :
 Calls Tryz.prog 8 #[.slice A l.length c, .agg #[.int .i64 n.kind, .string n.data, .slice h.A n.ptrs.length h.a, .int .i64 n.size, .int .i64 n.count, .slice h.B n.items.length h.b], .int .i64 a] w (NewVal M 0 noneNd false w) := by
 have q0 := al_first w (.cells #[.int .i64 n.kind, .string n.data, .slice h.A n.ptrs.length h.a, .int .i64 n.size, .int .i64 n.count, .slice h.B n.items.length h.b] nodeT)
 have q1 := al_next q0 (.cells #[.int .i64 0, .int .i64 0, .string { data := #[] }, .slice none 0 0, .int .i64 0, .int .i64 0, .slice none 0 0] valT)
 have r0 := heap_alloc_keep (heap_alloc_new w (.cells #[.int .i64 n.kind, .string n.data, .slice h.A n.ptrs.length h.a, .int .i64 n.size, .int .i64 n.count, .slice h.B n.items.length h.b] nodeT)) (.cells #[.int .i64 0, .int .i64 0, .string { data := #[] }, .slice none 0 0, .int .i64 0, .int .i64 0, .slice none 0 0] valT)
 have r1 := al_row q0 #[.int .i64 0, .int .i64 0, .string { data := #[] }, .slice none 0 0, .int .i64 0, .int .i64 0, .slice none 0 0] valT
 have HB0 := Lib.hid q1.2
 have HSZ0 := Lib.hid q1.1
 have R0 := Lib.hid r0
 have R1 := Lib.hid r1
 have HRB := Lib.hid (recordBy_a A c l m n h _ S (ht.below q1.2 h1w) (by have := q1.1; omega) (hl.below q1.2) hll (hn.below q1.2) htn)
 have HL := Lib.hid hl
 obtain ⟨a0, a1, a2, a3, a4, a5⟩ := cells6 r0
 clear q1 q0 r0 r1 ht hl hn htn
 go_enter Tryz.func8, Tryz.ntmps8
 go_wp2_with fail
 clear a0 a1 a2 a3 a4 a5
 generalize (w.alloc (.cells #[.int .i64 n.kind, .string n.data, .slice h.A n.ptrs.length h.a, .int .i64 n.size, .int .i64 n.count, .slice h.B n.items.length h.b] nodeT)).alloc (.cells #[.int .i64 0, .int .i64 0, .string { data := #[] }, .slice none 0 0, .int .i64 0, .int .i64 0, .slice none 0 0] valT) = W at *
 refine HRB.out.mono ?_
 intro e w1 hrec
 rcases hrec with ⟨hok, -⟩ | ⟨-, rfl, hb1⟩
 · rw [hno] at hok; cases hok
 have hba : Below w1.heap.size w1 (w1.alloc (.cells #[.slice none 0 0, .int .i64 0, .int .i64 0, .slice none 0 0, .int .i64 0, .int .i64 0, .string { data := #[] }, .slice none 0 0, .int .i64 0, .int .i64 0, .slice none 0 0] recT)) := (Below.refl _ _).alloc (Nat.le_refl _) _
 have hb2 : Below w.heap.size w (w1.alloc (.cells #[.slice none 0 0, .int .i64 0, .int .i64 0, .slice none 0 0, .int .i64 0, .int .i64 0, .string { data := #[] }, .slice none 0 0, .int .i64 0, .int .i64 0, .slice none 0 0] recT)) := (HB0.out.trans (hb1.mono HB0.out.size)).trans (hba.mono (Nat.le_trans HB0.out.size hb1.size))
 have hr2 := (hba.block _ (row_lt ((hb1.block _ (row_lt R1.out)).trans R1.out))).trans ((hb1.block _ (row_lt R1.out)).trans R1.out)
 obtain ⟨z0, z1, z2, z3, z4, z5, z6⟩ := cellsV hr2
 have zf := row_free hr2
 have HR2 := Lib.hid hr2
 have HB2 := Lib.hid hb2
 clear hb1 hba hb2 hr2 hno
 unfold zero11
 go_wp2_with fail
 obtain ⟨wf, hwf, hrw, hbf, hkf⟩ := finV (w := w) (R := w.heap.size) (.int .i64 0) (.int .i64 0) (.string { data := #[] }) (.slice none 0 0) (.int .i64 0) (.int .i64 0) (.slice none 0 0) HR2.out HB2.out (by omega)
 try rw [hwf]
 obtain ⟨e0, e1, e2, e3, e4, e5, e6⟩ := cellsV hrw
 exact bodyPost_ret (v := .tuple #[.agg #[.int .i64 0, .int .i64 0, .string { data := #[] }, .slice none 0 0, .int .i64 0, .int .i64 0, .slice none 0 0], .bool false]) (by simp [results, Tryz.results8, go_sem, e0, e1, e2, e3, e4, e5, e6]) rfl (NewVal.none rfl hbf)
theorem rgI_out (A : Option Addr) (c : Nat) (l : List Fld) (m : Nat) (n : Nd) (h : Hd) (w : World) (S : Nat → Prop) (ht : Tab w) (h1w : 1 < w.heap.size) (hl : Flds w A l) (hll : l.length ≤ 10000000) (hn : NdAt w S m n h) (htn : totN m n ≤ 2000000) (a : Int) (M : Nat) (hyes : recB l n = true) (hout : withB a l.length = false) :
 Calls Tryz.prog 8 #[.slice A l.length c, .agg #[.int .i64 n.kind, .string n.data, .slice h.A n.ptrs.length h.a, .int .i64 n.size, .int .i64 n.count, .slice h.B n.items.length h.b], .int .i64 a] w (NewVal M 0 noneNd false w) := by
 have q0 := al_first w (.cells #[.int .i64 n.kind, .string n.data, .slice h.A n.ptrs.length h.a, .int .i64 n.size, .int .i64 n.count, .slice h.B n.items.length h.b] nodeT)
 have q1 := al_next q0 (.cells #[.int .i64 0, .int .i64 0, .string { data := #[] }, .slice none 0 0, .int .i64 0, .int .i64 0, .slice none 0 0] valT)
 have r0 := heap_alloc_keep (heap_alloc_new w (.cells #[.int .i64 n.kind, .string n.data, .slice h.A n.ptrs.length h.a, .int .i64 n.size, .int .i64 n.count, .slice h.B n.items.length h.b] nodeT)) (.cells #[.int .i64 0, .int .i64 0, .string { data := #[] }, .slice none 0 0, .int .i64 0, .int .i64 0, .slice none 0 0] valT)
 have r1 := al_row q0 #[.int .i64 0, .int .i64 0, .string { data := #[] }, .slice none 0 0, .int .i64 0, .int .i64 0, .slice none 0 0] valT
 have HB0 := Lib.hid q1.2
 have HSZ0 := Lib.hid q1.1
 have R0 := Lib.hid r0
 have R1 := Lib.hid r1
 have HRB := Lib.hid (recordBy_a A c l m n h _ S (ht.below q1.2 h1w) (by have := q1.1; omega) (hl.below q1.2) hll (hn.below q1.2) htn)
 have HL := Lib.hid hl
 obtain ⟨a0, a1, a2, a3, a4, a5⟩ := cells6 r0
 clear q1 q0 r0 r1 ht hl hn htn
 go_enter Tryz.func8, Tryz.ntmps8
 go_wp2_with fail
 clear a0 a1 a2 a3 a4 a5
 generalize (w.alloc (.cells #[.int .i64 n.kind, .string n.data, .slice h.A n.ptrs.length h.a, .int .i64 n.size, .int .i64 n.count, .slice h.B n.items.length h.b] nodeT)).alloc (.cells #[.int .i64 0, .int .i64 0, .string { data := #[] }, .slice none 0 0, .int .i64 0, .int .i64 0, .slice none 0 0] valT) = W at *
 refine HRB.out.mono ?_
 intro e w1 hrec
 rcases hrec with ⟨hok, v1, rfl, hown, hb1⟩ | ⟨hok, -⟩
 rotate_left
 · rw [hyes] at hok; cases hok
 obtain ⟨A1, cp1, rfl⟩ := own_slice2 hown
 have hba : Below w1.heap.size w1 (w1.alloc (.cells #[.slice A l.length c, .int .i64 ((layF l ps0).2.ls.words : Int), .int .i64 ((layF l ps0).2.ptrs : Int), (.slice A1 l.length cp1), .int .i64 (tagL l), .int .i64 n.kind, .string n.data, .slice h.A n.ptrs.length h.a, .int .i64 n.size, .int .i64 n.count, .slice h.B n.items.length h.b] recT)) := (Below.refl _ _).alloc (Nat.le_refl _) _
 have hb2 : Below w.heap.size w (w1.alloc (.cells #[.slice A l.length c, .int .i64 ((layF l ps0).2.ls.words : Int), .int .i64 ((layF l ps0).2.ptrs : Int), (.slice A1 l.length cp1), .int .i64 (tagL l), .int .i64 n.kind, .string n.data, .slice h.A n.ptrs.length h.a, .int .i64 n.size, .int .i64 n.count, .slice h.B n.items.length h.b] recT)) := (HB0.out.trans (hb1.mono HB0.out.size)).trans (hba.mono (Nat.le_trans HB0.out.size hb1.size))
 have hr2 := (hba.block _ (row_lt ((hb1.block _ (row_lt R1.out)).trans R1.out))).trans ((hb1.block _ (row_lt R1.out)).trans R1.out)
 have HR2 := Lib.hid hr2
 have HB2 := Lib.hid hb2
 have HREC : Hid (RecAt (w1.alloc (.cells #[.slice A l.length c, .int .i64 ((layF l ps0).2.ls.words : Int), .int .i64 ((layF l ps0).2.ptrs : Int), (.slice A1 l.length cp1), .int .i64 (tagL l), .int .i64 n.kind, .string n.data, .slice h.A n.ptrs.length h.a, .int .i64 n.size, .int .i64 n.count, .slice h.B n.items.length h.b] recT)) w1.heap.size A l.length c l (.slice A1 l.length cp1) n h) := Lib.hid (heap_alloc_new w1 _)
 have HOWN := Lib.hid (hown.alloc (.cells #[.slice A l.length c, .int .i64 ((layF l ps0).2.ls.words : Int), .int .i64 ((layF l ps0).2.ptrs : Int), (.slice A1 l.length cp1), .int .i64 (tagL l), .int .i64 n.kind, .string n.data, .slice h.A n.ptrs.length h.a, .int .i64 n.size, .int .i64 n.count, .slice h.B n.items.length h.b] recT))
 obtain ⟨z0, z1, z2, z3, z4, z5, z6⟩ := cellsV hr2
 have zf := row_free hr2
 have HO := Lib.hid hout
 clear hb1 hba hb2 hr2 hyes hok hown hout
 unfold recV
 go_wp2_with (go_at_call 27; refine (within_any _ _ _).mono ?_; rintro e w' ⟨rfl, rfl⟩; rw [HO.out])
 obtain ⟨wf, hwf, hrw, hbf, hkf⟩ := finV (w := w) (R := w.heap.size) (.int .i64 0) (.int .i64 0) (.string { data := #[] }) (.slice none 0 0) (.int .i64 0) (.int .i64 0) (.slice none 0 0) HR2.out HB2.out (by omega)
 try rw [hwf]
 obtain ⟨e0, e1, e2, e3, e4, e5, e6⟩ := cellsV hrw
 exact bodyPost_ret (v := .tuple #[.agg #[.int .i64 0, .int .i64 0, .string { data := #[] }, .slice none 0 0, .int .i64 0, .int .i64 0, .slice none 0 0], .bool false]) (by simp [results, Tryz.results8, go_sem, e0, e1, e2, e3, e4, e5, e6]) rfl (NewVal.none rfl hbf)
theorem rgI_untold (A : Option Addr) (c : Nat) (l : List Fld) (m : Nat) (n : Nd) (h : Hd) (w : World) (S : Nat → Prop) (ht : Tab w) (h1w : 1 < w.heap.size) (hl : Flds w A l) (hll : l.length ≤ 10000000) (hn : NdAt w S m n h) (htn : totN m n ≤ 2000000) (k : Nat) (a : Int) (hak : a = (k : Int)) (hc : l.length ≤ c) (hyes : recB l n = true) (hk : k < l.length) (M : Nat) (htb : tellsB l k = true) (hne : choN l n ≠ (plcN l k : Int)) :
 Calls Tryz.prog 8 #[.slice A l.length c, .agg #[.int .i64 n.kind, .string n.data, .slice h.A n.ptrs.length h.a, .int .i64 n.size, .int .i64 n.count, .slice h.B n.items.length h.b], .int .i64 a] w (NewVal M 0 noneNd false w) := by
 have q0 := al_first w (.cells #[.int .i64 n.kind, .string n.data, .slice h.A n.ptrs.length h.a, .int .i64 n.size, .int .i64 n.count, .slice h.B n.items.length h.b] nodeT)
 have q1 := al_next q0 (.cells #[.int .i64 0, .int .i64 0, .string { data := #[] }, .slice none 0 0, .int .i64 0, .int .i64 0, .slice none 0 0] valT)
 have r0 := heap_alloc_keep (heap_alloc_new w (.cells #[.int .i64 n.kind, .string n.data, .slice h.A n.ptrs.length h.a, .int .i64 n.size, .int .i64 n.count, .slice h.B n.items.length h.b] nodeT)) (.cells #[.int .i64 0, .int .i64 0, .string { data := #[] }, .slice none 0 0, .int .i64 0, .int .i64 0, .slice none 0 0] valT)
 have r1 := al_row q0 #[.int .i64 0, .int .i64 0, .string { data := #[] }, .slice none 0 0, .int .i64 0, .int .i64 0, .slice none 0 0] valT
 have HB0 := Lib.hid q1.2
 have HSZ0 := Lib.hid q1.1
 have R0 := Lib.hid r0
 have R1 := Lib.hid r1
 have HRB := Lib.hid (recordBy_a A c l m n h _ S (ht.below q1.2 h1w) (by have := q1.1; omega) (hl.below q1.2) hll (hn.below q1.2) htn)
 have HL := Lib.hid hl
 obtain ⟨a0, a1, a2, a3, a4, a5⟩ := cells6 r0
 subst hak
 have hok9 := (rec_data hyes).2.2
 have hl12 := fldsOk_len hok9
 have HWI : Hid (withB (k : Int) l.length = true) := Lib.hid (by simp [withB]; omega)
 have hd := hn.1
 have hb := tagL_bd hok9
 have htg : ¬ tagL l < 0 := by rw [tells_eq hk] at htb; simp at htb; omega
 have HX := Lib.hid (cho_get hyes htg)
 have HNE : Hid (((choN l n) != ((plcN l k : Nat) : Int)) = true) := Lib.hid (by simpa using hne)
 have HPL := Lib.hid (fun (W : World) (hW : Below w.heap.size w W) => placeOf_a A c l k hk hc W (hl.below hW) hl12)
 clear q1 q0 r0 r1 ht hl hn htn
 go_enter Tryz.func8, Tryz.ntmps8
 go_wp2_with fail
 clear a0 a1 a2 a3 a4 a5
 generalize (w.alloc (.cells #[.int .i64 n.kind, .string n.data, .slice h.A n.ptrs.length h.a, .int .i64 n.size, .int .i64 n.count, .slice h.B n.items.length h.b] nodeT)).alloc (.cells #[.int .i64 0, .int .i64 0, .string { data := #[] }, .slice none 0 0, .int .i64 0, .int .i64 0, .slice none 0 0] valT) = W at *
 refine HRB.out.mono ?_
 intro e w1 hrec
 rcases hrec with ⟨hok, v1, rfl, hown, hb1⟩ | ⟨hok, -⟩
 rotate_left
 · rw [hyes] at hok; cases hok
 obtain ⟨A1, cp1, rfl⟩ := own_slice2 hown
 have hba : Below w1.heap.size w1 (w1.alloc (.cells #[.slice A l.length c, .int .i64 ((layF l ps0).2.ls.words : Int), .int .i64 ((layF l ps0).2.ptrs : Int), (.slice A1 l.length cp1), .int .i64 (tagL l), .int .i64 n.kind, .string n.data, .slice h.A n.ptrs.length h.a, .int .i64 n.size, .int .i64 n.count, .slice h.B n.items.length h.b] recT)) := (Below.refl _ _).alloc (Nat.le_refl _) _
 have hb2 : Below w.heap.size w (w1.alloc (.cells #[.slice A l.length c, .int .i64 ((layF l ps0).2.ls.words : Int), .int .i64 ((layF l ps0).2.ptrs : Int), (.slice A1 l.length cp1), .int .i64 (tagL l), .int .i64 n.kind, .string n.data, .slice h.A n.ptrs.length h.a, .int .i64 n.size, .int .i64 n.count, .slice h.B n.items.length h.b] recT)) := (HB0.out.trans (hb1.mono HB0.out.size)).trans (hba.mono (Nat.le_trans HB0.out.size hb1.size))
 have hr2 := (hba.block _ (row_lt ((hb1.block _ (row_lt R1.out)).trans R1.out))).trans ((hb1.block _ (row_lt R1.out)).trans R1.out)
 have HR2 := Lib.hid hr2
 have HB2 := Lib.hid hb2
 have HREC : Hid (RecAt (w1.alloc (.cells #[.slice A l.length c, .int .i64 ((layF l ps0).2.ls.words : Int), .int .i64 ((layF l ps0).2.ptrs : Int), (.slice A1 l.length cp1), .int .i64 (tagL l), .int .i64 n.kind, .string n.data, .slice h.A n.ptrs.length h.a, .int .i64 n.size, .int .i64 n.count, .slice h.B n.items.length h.b] recT)) w1.heap.size A l.length c l (.slice A1 l.length cp1) n h) := Lib.hid (heap_alloc_new w1 _)
 have HOWN := Lib.hid (hown.alloc (.cells #[.slice A l.length c, .int .i64 ((layF l ps0).2.ls.words : Int), .int .i64 ((layF l ps0).2.ptrs : Int), (.slice A1 l.length cp1), .int .i64 (tagL l), .int .i64 n.kind, .string n.data, .slice h.A n.ptrs.length h.a, .int .i64 n.size, .int .i64 n.count, .slice h.B n.items.length h.b] recT))
 obtain ⟨x, rfl, hxb, hx⟩ := (HL.out.below hb2).at2 hk
 have HTL := Lib.hid (tells_a w1.heap.size x c l (.slice A1 l.length cp1) n h k hk _ HREC.out hx hl12)
 have HTD : Hid (∀ V : World, Below (w1.alloc (.cells #[.slice (some x) l.length c, .int .i64 ((layF l ps0).2.ls.words : Int), .int .i64 ((layF l ps0).2.ptrs : Int), (.slice A1 l.length cp1), .int .i64 (tagL l), .int .i64 n.kind, .string n.data, .slice h.A n.ptrs.length h.a, .int .i64 n.size, .int .i64 n.count, .slice h.B n.items.length h.b] recT)).heap.size (w1.alloc (.cells #[.slice (some x) l.length c, .int .i64 ((layF l ps0).2.ls.words : Int), .int .i64 ((layF l ps0).2.ptrs : Int), (.slice A1 l.length cp1), .int .i64 (tagL l), .int .i64 n.kind, .string n.data, .slice h.A n.ptrs.length h.a, .int .i64 n.size, .int .i64 n.count, .slice h.B n.items.length h.b] recT)) V → Calls Tryz.prog 29 #[.pointer (some ⟨w1.heap.size, 0, none⟩)] V fun e w' => e = .returned (.int .i64 (choN l n)) ∧ Below V.heap.size V w') := Lib.hid fun V hV => by
  have := told_a w1.heap.size (some x) l.length c l _ n h V (HREC.out.below hV) hd (by omega) (by omega)
  rwa [HX.out] at this
 rw [htb] at HTL
 have hk9 : ((k : Nat) : Int) < l.length := by omega
 clear hb1 hba hb2 hr2 hyes hok hown htb hne htg hb hd hx HX
 generalize choN l n = cv at *
 generalize ((plcN l k : Nat) : Int) = pv at *
 unfold recV
 go_wp2_with (go_at_call 27; refine (within_any _ _ _).mono ?_; rintro e w' ⟨rfl, rfl⟩; rw [HWI.out])
 generalize w1.alloc (.cells #[.slice (some x) l.length c, .int .i64 ((layF l ps0).2.ls.words : Int), .int .i64 ((layF l ps0).2.ptrs : Int), (.slice A1 l.length cp1), .int .i64 (tagL l), .int .i64 n.kind, .string n.data, .slice h.A n.ptrs.length h.a, .int .i64 n.size, .int .i64 n.count, .slice h.B n.items.length h.b] recT) = W2 at *
 refine HTL.out.mono ?_
 rintro e w3 ⟨rfl, hb3⟩
 have HB3 := Lib.hid (HB2.out.trans (hb3.mono HB2.out.size))
 have HC3 := Lib.hid hb3
 clear hb3
 go_wp2_with fail
 refine (HTD.out _ HC3.out).mono ?_
 rintro e w4 ⟨rfl, hb4⟩
 have HB4 := Lib.hid (HB3.out.trans (hb4.mono HB3.out.size))
 have HC4 := Lib.hid (HC3.out.trans (hb4.mono HC3.out.size))
 clear hb4
 have hne9 := HNE.out
 go_wp2_with fail
 refine (HPL.out _ HB4.out).mono ?_
 rintro e w5 ⟨rfl, hb5⟩
 have HB5 := Lib.hid (HB4.out.trans (hb5.mono HB4.out.size))
 have HC5 := Lib.hid (HC4.out.trans (hb5.mono HC4.out.size))
 clear hb5
 have hr5 := (HC5.out.block _ (row_lt HR2.out)).trans HR2.out
 obtain ⟨z0, z1, z2, z3, z4, z5, z6⟩ := cellsV hr5
 have zf := row_free hr5
 have HR5 := Lib.hid hr5
 clear hr5
 go_wp2_with fail
 obtain ⟨wf, hwf, hrw, hbf, hkf⟩ := finV (w := w) (R := w.heap.size) (.int .i64 0) (.int .i64 0) (.string { data := #[] }) (.slice none 0 0) (.int .i64 0) (.int .i64 0) (.slice none 0 0) HR5.out HB5.out (by omega)
 try rw [hwf]
 obtain ⟨e0, e1, e2, e3, e4, e5, e6⟩ := cellsV hrw
 exact bodyPost_ret (v := .tuple #[.agg #[.int .i64 0, .int .i64 0, .string { data := #[] }, .slice none 0 0, .int .i64 0, .int .i64 0, .slice none 0 0], .bool false]) (by simp [results, Tryz.results8, go_sem, e0, e1, e2, e3, e4, e5, e6]) rfl (NewVal.none rfl hbf)
theorem rgI_told (A : Option Addr) (c : Nat) (l : List Fld) (m : Nat) (n : Nd) (h : Hd) (w : World) (S : Nat → Prop) (ht : Tab w) (h1w : 1 < w.heap.size) (hl : Flds w A l) (hll : l.length ≤ 10000000) (hn : NdAt w S m n h) (htn : totN m n ≤ 2000000) (k : Nat) (a : Int) (hak : a = (k : Int)) (hc : l.length ≤ c) (hyes : recB l n = true) (hk : k < l.length) (j : Nat) (xv : Int) (yv : Nd) (hv : Hd) (hny : NdAt w S j yv hv) (hyz : sizN yv ≤ 2000000) (HRAW : ∀ (V : World) (g : Nat) (x y : Addr) (cy : Nat), Below w.heap.size w V → A = some x → x.block < V.heap.size → RecAt V g (some x) l.length c l (.slice (some y) l.length cy) n h → y.block < V.heap.size → V.cell? (x.add (k * 3)) = some (.int .i64 (fldK l k).size) → V.cell? (y.add k) = some (.int .i64 (atF l k : Nat)) → Calls Tryz.prog 62 #[.pointer (some ⟨g, 0, none⟩), .int .i64 (k : Int)] V fun e w' => e = .returned (.agg #[.int .i64 xv, .int .i64 yv.kind, .string yv.data, .slice hv.A yv.ptrs.length hv.a, .int .i64 yv.size, .int .i64 yv.count, .slice hv.B yv.items.length hv.b]) ∧ Below V.heap.size V w') (htb : tellsB l k = true) (hne : choN l n = (plcN l k : Int)) :
 Calls Tryz.prog 8 #[.slice A l.length c, .agg #[.int .i64 n.kind, .string n.data, .slice h.A n.ptrs.length h.a, .int .i64 n.size, .int .i64 n.count, .slice h.B n.items.length h.b], .int .i64 a] w (NewVal (j + 1) (xorI xv (fldK l k).els) yv true w) := by
 rw [fldK_at hk]
 obtain ⟨X9, hX9⟩ : ∃ X9, xorI xv (l[k]).els = X9 := ⟨_, rfl⟩
 have HX9 := Lib.hid hX9
 rw [hX9]
 clear hX9
 have q0 := al_first w (.cells #[.int .i64 n.kind, .string n.data, .slice h.A n.ptrs.length h.a, .int .i64 n.size, .int .i64 n.count, .slice h.B n.items.length h.b] nodeT)
 have q1 := al_next q0 (.cells #[.int .i64 0, .int .i64 0, .string { data := #[] }, .slice none 0 0, .int .i64 0, .int .i64 0, .slice none 0 0] valT)
 have r0 := heap_alloc_keep (heap_alloc_new w (.cells #[.int .i64 n.kind, .string n.data, .slice h.A n.ptrs.length h.a, .int .i64 n.size, .int .i64 n.count, .slice h.B n.items.length h.b] nodeT)) (.cells #[.int .i64 0, .int .i64 0, .string { data := #[] }, .slice none 0 0, .int .i64 0, .int .i64 0, .slice none 0 0] valT)
 have r1 := al_row q0 #[.int .i64 0, .int .i64 0, .string { data := #[] }, .slice none 0 0, .int .i64 0, .int .i64 0, .slice none 0 0] valT
 have HB0 := Lib.hid q1.2
 have HSZ0 := Lib.hid q1.1
 have R0 := Lib.hid r0
 have R1 := Lib.hid r1
 have HRB := Lib.hid (recordBy_a A c l m n h _ S (ht.below q1.2 h1w) (by have := q1.1; omega) (hl.below q1.2) hll (hn.below q1.2) htn)
 have HL := Lib.hid hl
 obtain ⟨a0, a1, a2, a3, a4, a5⟩ := cells6 r0
 subst hak
 have hok9 := (rec_data hyes).2.2
 have hl12 := fldsOk_len hok9
 have HWI : Hid (withB (k : Int) l.length = true) := Lib.hid (by simp [withB]; omega)
 have hd := hn.1
 have hb := tagL_bd hok9
 have htg : ¬ tagL l < 0 := by rw [tells_eq hk] at htb; simp at htb; omega
 have HX := Lib.hid (cho_get hyes htg)
 have HNE : Hid (((choN l n) != ((plcN l k : Nat) : Int)) = false) := Lib.hid (by simpa using hne)
 have HPL := Lib.hid (fun (W : World) (hW : Below w.heap.size w W) => placeOf_a A c l k hk hc W (hl.below hW) hl12)
 have HCP := Lib.hid (fun (W : World) (hW : Below w.heap.size w W) => ciN_any j yv hv W S (hny.below hW) hyz)
 clear q1 q0 r0 r1 ht hl hn htn
 go_enter Tryz.func8, Tryz.ntmps8
 go_wp2_with fail
 clear a0 a1 a2 a3 a4 a5
 generalize (w.alloc (.cells #[.int .i64 n.kind, .string n.data, .slice h.A n.ptrs.length h.a, .int .i64 n.size, .int .i64 n.count, .slice h.B n.items.length h.b] nodeT)).alloc (.cells #[.int .i64 0, .int .i64 0, .string { data := #[] }, .slice none 0 0, .int .i64 0, .int .i64 0, .slice none 0 0] valT) = W at *
 refine HRB.out.mono ?_
 intro e w1 hrec
 rcases hrec with ⟨hok, v1, rfl, hown, hb1⟩ | ⟨hok, -⟩
 rotate_left
 · rw [hyes] at hok; cases hok
 obtain ⟨A1, cp1, rfl⟩ := own_slice2 hown
 have hba : Below w1.heap.size w1 (w1.alloc (.cells #[.slice A l.length c, .int .i64 ((layF l ps0).2.ls.words : Int), .int .i64 ((layF l ps0).2.ptrs : Int), (.slice A1 l.length cp1), .int .i64 (tagL l), .int .i64 n.kind, .string n.data, .slice h.A n.ptrs.length h.a, .int .i64 n.size, .int .i64 n.count, .slice h.B n.items.length h.b] recT)) := (Below.refl _ _).alloc (Nat.le_refl _) _
 have hb2 : Below w.heap.size w (w1.alloc (.cells #[.slice A l.length c, .int .i64 ((layF l ps0).2.ls.words : Int), .int .i64 ((layF l ps0).2.ptrs : Int), (.slice A1 l.length cp1), .int .i64 (tagL l), .int .i64 n.kind, .string n.data, .slice h.A n.ptrs.length h.a, .int .i64 n.size, .int .i64 n.count, .slice h.B n.items.length h.b] recT)) := (HB0.out.trans (hb1.mono HB0.out.size)).trans (hba.mono (Nat.le_trans HB0.out.size hb1.size))
 have hr2 := (hba.block _ (row_lt ((hb1.block _ (row_lt R1.out)).trans R1.out))).trans ((hb1.block _ (row_lt R1.out)).trans R1.out)
 have HR2 := Lib.hid hr2
 have HB2 := Lib.hid hb2
 have HREC : Hid (RecAt (w1.alloc (.cells #[.slice A l.length c, .int .i64 ((layF l ps0).2.ls.words : Int), .int .i64 ((layF l ps0).2.ptrs : Int), (.slice A1 l.length cp1), .int .i64 (tagL l), .int .i64 n.kind, .string n.data, .slice h.A n.ptrs.length h.a, .int .i64 n.size, .int .i64 n.count, .slice h.B n.items.length h.b] recT)) w1.heap.size A l.length c l (.slice A1 l.length cp1) n h) := Lib.hid (heap_alloc_new w1 _)
 have HOWN := Lib.hid (hown.alloc (.cells #[.slice A l.length c, .int .i64 ((layF l ps0).2.ls.words : Int), .int .i64 ((layF l ps0).2.ptrs : Int), (.slice A1 l.length cp1), .int .i64 (tagL l), .int .i64 n.kind, .string n.data, .slice h.A n.ptrs.length h.a, .int .i64 n.size, .int .i64 n.count, .slice h.B n.items.length h.b] recT))
 obtain ⟨x, rfl, hxb, hx⟩ := (HL.out.below hb2).at2 hk
 have HTL := Lib.hid (tells_a w1.heap.size x c l (.slice A1 l.length cp1) n h k hk _ HREC.out hx hl12)
 have HTD : Hid (∀ V : World, Below (w1.alloc (.cells #[.slice (some x) l.length c, .int .i64 ((layF l ps0).2.ls.words : Int), .int .i64 ((layF l ps0).2.ptrs : Int), (.slice A1 l.length cp1), .int .i64 (tagL l), .int .i64 n.kind, .string n.data, .slice h.A n.ptrs.length h.a, .int .i64 n.size, .int .i64 n.count, .slice h.B n.items.length h.b] recT)).heap.size (w1.alloc (.cells #[.slice (some x) l.length c, .int .i64 ((layF l ps0).2.ls.words : Int), .int .i64 ((layF l ps0).2.ptrs : Int), (.slice A1 l.length cp1), .int .i64 (tagL l), .int .i64 n.kind, .string n.data, .slice h.A n.ptrs.length h.a, .int .i64 n.size, .int .i64 n.count, .slice h.B n.items.length h.b] recT)) V → Calls Tryz.prog 29 #[.pointer (some ⟨w1.heap.size, 0, none⟩)] V fun e w' => e = .returned (.int .i64 (choN l n)) ∧ Below V.heap.size V w') := Lib.hid fun V hV => by
  have := told_a w1.heap.size (some x) l.length c l _ n h V (HREC.out.below hV) hd (by omega) (by omega)
  rwa [HX.out] at this
 have hsl := hown.alloc (.cells #[.slice (some x) l.length c, .int .i64 ((layF l ps0).2.ls.words : Int), .int .i64 ((layF l ps0).2.ptrs : Int), (.slice A1 l.length cp1), .int .i64 (tagL l), .int .i64 n.kind, .string n.data, .slice h.A n.ptrs.length h.a, .int .i64 n.size, .int .i64 n.count, .slice h.B n.items.length h.b] recT)
 rw [← lay_length l ps0] at hsl
 obtain ⟨y, rfl, hyb, hsy⟩ := slots_atR (k := k) (by rw [lay_length] at hsl ⊢; exact hsl) (by rw [lay_length]; exact hk)
 rw [lay_length] at hsl
 have HGET : Hid (∀ V : World, Below (w1.alloc (.cells #[.slice (some x) l.length c, .int .i64 ((layF l ps0).2.ls.words : Int), .int .i64 ((layF l ps0).2.ptrs : Int), (.slice (some y) l.length cp1), .int .i64 (tagL l), .int .i64 n.kind, .string n.data, .slice h.A n.ptrs.length h.a, .int .i64 n.size, .int .i64 n.count, .slice h.B n.items.length h.b] recT)).heap.size (w1.alloc (.cells #[.slice (some x) l.length c, .int .i64 ((layF l ps0).2.ls.words : Int), .int .i64 ((layF l ps0).2.ptrs : Int), (.slice (some y) l.length cp1), .int .i64 (tagL l), .int .i64 n.kind, .string n.data, .slice h.A n.ptrs.length h.a, .int .i64 n.size, .int .i64 n.count, .slice h.B n.items.length h.b] recT)) V → Calls Tryz.prog 31 #[.pointer (some ⟨w1.heap.size, 0, none⟩), .int .i64 (k : Int)] V fun e w' => e = .returned (.agg #[.int .i64 (xorI xv (l[k]).els), .int .i64 yv.kind, .string yv.data, .slice hv.A yv.ptrs.length hv.a, .int .i64 yv.size, .int .i64 yv.count, .slice hv.B yv.items.length hv.b]) ∧ Below V.heap.size V w') := Lib.hid fun V hV => by
  have hxV := (HL.out.below hb2).below hV
  obtain ⟨x', hx', hxb', hx2⟩ := hxV.at2 hk
  obtain rfl := Option.some.inj hx'
  have hrV := HREC.out.below hV
  refine rget_a w1.heap.size x y c cp1 l n h k hk _ V hrV hxb' hx2.c2 hl12 xv yv hv (fun W hW => ?_)
  have hx3 := hx2.below hW (by rw [addr_block]; exact hxb')
  have hyV : y.block < V.heap.size := Nat.lt_of_lt_of_le hyb hV.size
  have hsV := (hV.cell (p := y.add k) (by rw [addr_block]; exact hyb)).trans hsy
  exact HRAW W w1.heap.size x y cp1 ((hb2.trans (hV.mono hb2.size)).trans (hW.mono (Nat.le_trans hb2.size hV.size))) rfl (Nat.lt_of_lt_of_le hxb' hW.size) (hrV.below hW) (Nat.lt_of_lt_of_le hyV hW.size) (by rw [fldK_at hk]; exact hx3.c0) ((hW.cell (p := y.add k) (by rw [addr_block]; exact hyV)).trans hsV)
 rw [htb] at HTL
 have hk9 : ((k : Nat) : Int) < l.length := by omega
 clear hb1 hba hb2 hr2 hyes hok hown htb hne htg hb hd HX hx HRAW hny hyz hsl hsy hyb
 unfold NewO at HCP
 rw [HX9.out] at HGET
 generalize choN l n = cv at *
 generalize ((plcN l k : Nat) : Int) = pv at *
 unfold recV
 go_wp2_with (go_at_call 27; refine (within_any _ _ _).mono ?_; rintro e w' ⟨rfl, rfl⟩; rw [HWI.out])
 generalize w1.alloc (.cells #[.slice (some x) l.length c, .int .i64 ((layF l ps0).2.ls.words : Int), .int .i64 ((layF l ps0).2.ptrs : Int), (.slice (some y) l.length cp1), .int .i64 (tagL l), .int .i64 n.kind, .string n.data, .slice h.A n.ptrs.length h.a, .int .i64 n.size, .int .i64 n.count, .slice h.B n.items.length h.b] recT) = W2 at *
 refine HTL.out.mono ?_
 rintro e w3 ⟨rfl, hb3⟩
 have HB3 := Lib.hid (HB2.out.trans (hb3.mono HB2.out.size))
 have HC3 := Lib.hid hb3
 clear hb3
 go_wp2_with fail
 refine (HTD.out _ HC3.out).mono ?_
 rintro e w4 ⟨rfl, hb4⟩
 have HB4 := Lib.hid (HB3.out.trans (hb4.mono HB3.out.size))
 have HC4 := Lib.hid (HC3.out.trans (hb4.mono HC3.out.size))
 clear hb4
 have hne9 := HNE.out
 go_wp2_with fail
 refine (HPL.out _ HB4.out).mono ?_
 rintro e w5 ⟨rfl, hb5⟩
 have HB5 := Lib.hid (HB4.out.trans (hb5.mono HB4.out.size))
 have HC5 := Lib.hid (HC4.out.trans (hb5.mono HC4.out.size))
 clear hb5
 go_wp2_with fail
 refine (HGET.out _ HC5.out).mono ?_
 rintro e w6 ⟨rfl, hb6⟩
 have HB6 := Lib.hid (HB5.out.trans (hb6.mono HB5.out.size))
 have hr6 := ((HC5.out.trans (hb6.mono HC5.out.size)).block _ (row_lt HR2.out)).trans HR2.out
 have hn := heap_alloc_new w6 (.cells #[.int .i64 X9, .int .i64 yv.kind, .string yv.data, .slice hv.A yv.ptrs.length hv.a, .int .i64 yv.size, .int .i64 yv.count, .slice hv.B yv.items.length hv.b] valT)
 have hb7 : Below w6.heap.size w6 (w6.alloc (.cells #[.int .i64 X9, .int .i64 yv.kind, .string yv.data, .slice hv.A yv.ptrs.length hv.a, .int .i64 yv.size, .int .i64 yv.count, .slice hv.B yv.items.length hv.b] valT)) := (Below.refl _ _).alloc (Nat.le_refl _) _
 have HB7 := Lib.hid (HB6.out.trans (hb7.mono HB6.out.size))
 have HR7 := Lib.hid ((hb7.block _ (row_lt hr6)).trans hr6)
 have HN7 := Lib.hid hn
 have hl6 := row_lt hr6
 obtain ⟨z0, z1, z2, z3, z4, z5, z6⟩ := cellsV hn
 clear hb6 hr6 hn hb7
 go_wp2_with fail
 generalize w6.alloc (.cells #[.int .i64 X9, .int .i64 yv.kind, .string yv.data, .slice hv.A yv.ptrs.length hv.a, .int .i64 yv.size, .int .i64 yv.count, .slice hv.B yv.items.length hv.b] valT) = W7 at *
 clear z0 z1 z2 z3 z4 z5 z6
 refine (HCP.out _ HB7.out).mono ?_
 rintro e w8 ⟨h5, bs, rfl, ho, hd5, hg5, hb8⟩
 have hr8 := (hb8.block _ (row_lt HN7.out)).trans HN7.out
 have HZ8 := Lib.hid ((hb8.block _ (row_lt HR7.out)).trans HR7.out)
 have HB8 := Lib.hid (HB7.out.trans (hb8.mono HB7.out.size))
 have HR8 := Lib.hid hr8
 have HO := Lib.hid ho
 have HG := Lib.hid (And.intro hd5 hg5)
 have HL7 := Lib.hid (row_lt HN7.out)
 obtain ⟨z0, z1, z2, z3, z4, z5, z6⟩ := cellsV hr8
 have zf := row_free hr8
 obtain ⟨w9, hw9, hrw9, hbf9, hkf9⟩ := finW (w := w) (R := w.heap.size) (.int .i64 yv.kind) (.string yv.data) (.slice h5.A yv.ptrs.length h5.a) (.int .i64 yv.size) (.int .i64 yv.count) (.slice h5.B yv.items.length h5.b) HR8.out HB8.out (by omega)
 have hz9 := (hkf9 _ (by omega)).trans HZ8.out
 obtain ⟨f0, f1, f2, f3, f4, f5, f6⟩ := cellsV hrw9
 obtain ⟨g0, g1, g2, g3, g4, g5, g6⟩ := cellsV hz9
 have gf := row_free hz9
 have HW9 := Lib.hid hw9
 have HBF9 := Lib.hid hbf9
 have HK9 := Lib.hid hkf9
 have HZ9 := Lib.hid hz9
 clear hbf9 hkf9 hz9 hb8 ho hd5 hg5 hr8
 go_wp2_with (fail)
 obtain ⟨wA, hwA, hrwA, hbfA, hkfA⟩ := finV (w := w) (R := w.heap.size) (.int .i64 X9) (.int .i64 yv.kind) (.string yv.data) (.slice h5.A yv.ptrs.length h5.a) (.int .i64 yv.size) (.int .i64 yv.count) (.slice h5.B yv.items.length h5.b) HZ9.out HBF9.out (by omega)
 try rw [hwA]
 obtain ⟨e0, e1, e2, e3, e4, e5, e6⟩ := cellsV hrwA
 exact bodyPost_ret (v := .tuple #[.agg #[.int .i64 X9, .int .i64 yv.kind, .string yv.data, .slice h5.A yv.ptrs.length h5.a, .int .i64 yv.size, .int .i64 yv.count, .slice h5.B yv.items.length h5.b], .bool true]) (by simp [results, Tryz.results8, go_sem, e0, e1, e2, e3, e4, e5, e6]) rfl ⟨h5, bs, rfl, HO.out.frame (fun b hb => (hkfA _ (by have := HG.out.2 b hb; have := HL7.out; omega)).trans (HK9.out _ (by have := HG.out.2 b hb; have := HL7.out; omega))), HG.out.1, fun b hb => by have := HG.out.2 b hb; have := HL7.out; omega, hbfA⟩
theorem rgI_free (A : Option Addr) (c : Nat) (l : List Fld) (m : Nat) (n : Nd) (h : Hd) (w : World) (S : Nat → Prop) (ht : Tab w) (h1w : 1 < w.heap.size) (hl : Flds w A l) (hll : l.length ≤ 10000000) (hn : NdAt w S m n h) (htn : totN m n ≤ 2000000) (k : Nat) (a : Int) (hak : a = (k : Int)) (hc : l.length ≤ c) (hyes : recB l n = true) (hk : k < l.length) (j : Nat) (xv : Int) (yv : Nd) (hv : Hd) (hny : NdAt w S j yv hv) (hyz : sizN yv ≤ 2000000) (HRAW : ∀ (V : World) (g : Nat) (x y : Addr) (cy : Nat), Below w.heap.size w V → A = some x → x.block < V.heap.size → RecAt V g (some x) l.length c l (.slice (some y) l.length cy) n h → y.block < V.heap.size → V.cell? (x.add (k * 3)) = some (.int .i64 (fldK l k).size) → V.cell? (y.add k) = some (.int .i64 (atF l k : Nat)) → Calls Tryz.prog 62 #[.pointer (some ⟨g, 0, none⟩), .int .i64 (k : Int)] V fun e w' => e = .returned (.agg #[.int .i64 xv, .int .i64 yv.kind, .string yv.data, .slice hv.A yv.ptrs.length hv.a, .int .i64 yv.size, .int .i64 yv.count, .slice hv.B yv.items.length hv.b]) ∧ Below V.heap.size V w') (htb : tellsB l k = false) :
 Calls Tryz.prog 8 #[.slice A l.length c, .agg #[.int .i64 n.kind, .string n.data, .slice h.A n.ptrs.length h.a, .int .i64 n.size, .int .i64 n.count, .slice h.B n.items.length h.b], .int .i64 a] w (NewVal (j + 1) (xorI xv (fldK l k).els) yv true w) := by
 rw [fldK_at hk]
 obtain ⟨X9, hX9⟩ : ∃ X9, xorI xv (l[k]).els = X9 := ⟨_, rfl⟩
 have HX9 := Lib.hid hX9
 rw [hX9]
 clear hX9
 have q0 := al_first w (.cells #[.int .i64 n.kind, .string n.data, .slice h.A n.ptrs.length h.a, .int .i64 n.size, .int .i64 n.count, .slice h.B n.items.length h.b] nodeT)
 have q1 := al_next q0 (.cells #[.int .i64 0, .int .i64 0, .string { data := #[] }, .slice none 0 0, .int .i64 0, .int .i64 0, .slice none 0 0] valT)
 have r0 := heap_alloc_keep (heap_alloc_new w (.cells #[.int .i64 n.kind, .string n.data, .slice h.A n.ptrs.length h.a, .int .i64 n.size, .int .i64 n.count, .slice h.B n.items.length h.b] nodeT)) (.cells #[.int .i64 0, .int .i64 0, .string { data := #[] }, .slice none 0 0, .int .i64 0, .int .i64 0, .slice none 0 0] valT)
 have r1 := al_row q0 #[.int .i64 0, .int .i64 0, .string { data := #[] }, .slice none 0 0, .int .i64 0, .int .i64 0, .slice none 0 0] valT
 have HB0 := Lib.hid q1.2
 have HSZ0 := Lib.hid q1.1
 have R0 := Lib.hid r0
 have R1 := Lib.hid r1
 have HRB := Lib.hid (recordBy_a A c l m n h _ S (ht.below q1.2 h1w) (by have := q1.1; omega) (hl.below q1.2) hll (hn.below q1.2) htn)
 have HL := Lib.hid hl
 obtain ⟨a0, a1, a2, a3, a4, a5⟩ := cells6 r0
 subst hak
 have hok9 := (rec_data hyes).2.2
 have hl12 := fldsOk_len hok9
 have HWI : Hid (withB (k : Int) l.length = true) := Lib.hid (by simp [withB]; omega)
 have HCP := Lib.hid (fun (W : World) (hW : Below w.heap.size w W) => ciN_any j yv hv W S (hny.below hW) hyz)
 clear q1 q0 r0 r1 ht hl hn htn
 go_enter Tryz.func8, Tryz.ntmps8
 go_wp2_with fail
 clear a0 a1 a2 a3 a4 a5
 generalize (w.alloc (.cells #[.int .i64 n.kind, .string n.data, .slice h.A n.ptrs.length h.a, .int .i64 n.size, .int .i64 n.count, .slice h.B n.items.length h.b] nodeT)).alloc (.cells #[.int .i64 0, .int .i64 0, .string { data := #[] }, .slice none 0 0, .int .i64 0, .int .i64 0, .slice none 0 0] valT) = W at *
 refine HRB.out.mono ?_
 intro e w1 hrec
 rcases hrec with ⟨hok, v1, rfl, hown, hb1⟩ | ⟨hok, -⟩
 rotate_left
 · rw [hyes] at hok; cases hok
 obtain ⟨A1, cp1, rfl⟩ := own_slice2 hown
 have hba : Below w1.heap.size w1 (w1.alloc (.cells #[.slice A l.length c, .int .i64 ((layF l ps0).2.ls.words : Int), .int .i64 ((layF l ps0).2.ptrs : Int), (.slice A1 l.length cp1), .int .i64 (tagL l), .int .i64 n.kind, .string n.data, .slice h.A n.ptrs.length h.a, .int .i64 n.size, .int .i64 n.count, .slice h.B n.items.length h.b] recT)) := (Below.refl _ _).alloc (Nat.le_refl _) _
 have hb2 : Below w.heap.size w (w1.alloc (.cells #[.slice A l.length c, .int .i64 ((layF l ps0).2.ls.words : Int), .int .i64 ((layF l ps0).2.ptrs : Int), (.slice A1 l.length cp1), .int .i64 (tagL l), .int .i64 n.kind, .string n.data, .slice h.A n.ptrs.length h.a, .int .i64 n.size, .int .i64 n.count, .slice h.B n.items.length h.b] recT)) := (HB0.out.trans (hb1.mono HB0.out.size)).trans (hba.mono (Nat.le_trans HB0.out.size hb1.size))
 have hr2 := (hba.block _ (row_lt ((hb1.block _ (row_lt R1.out)).trans R1.out))).trans ((hb1.block _ (row_lt R1.out)).trans R1.out)
 have HR2 := Lib.hid hr2
 have HB2 := Lib.hid hb2
 have HREC : Hid (RecAt (w1.alloc (.cells #[.slice A l.length c, .int .i64 ((layF l ps0).2.ls.words : Int), .int .i64 ((layF l ps0).2.ptrs : Int), (.slice A1 l.length cp1), .int .i64 (tagL l), .int .i64 n.kind, .string n.data, .slice h.A n.ptrs.length h.a, .int .i64 n.size, .int .i64 n.count, .slice h.B n.items.length h.b] recT)) w1.heap.size A l.length c l (.slice A1 l.length cp1) n h) := Lib.hid (heap_alloc_new w1 _)
 have HOWN := Lib.hid (hown.alloc (.cells #[.slice A l.length c, .int .i64 ((layF l ps0).2.ls.words : Int), .int .i64 ((layF l ps0).2.ptrs : Int), (.slice A1 l.length cp1), .int .i64 (tagL l), .int .i64 n.kind, .string n.data, .slice h.A n.ptrs.length h.a, .int .i64 n.size, .int .i64 n.count, .slice h.B n.items.length h.b] recT))
 obtain ⟨x, rfl, hxb, hx⟩ := (HL.out.below hb2).at2 hk
 have HTL := Lib.hid (tells_a w1.heap.size x c l (.slice A1 l.length cp1) n h k hk _ HREC.out hx hl12)
 have hsl := hown.alloc (.cells #[.slice (some x) l.length c, .int .i64 ((layF l ps0).2.ls.words : Int), .int .i64 ((layF l ps0).2.ptrs : Int), (.slice A1 l.length cp1), .int .i64 (tagL l), .int .i64 n.kind, .string n.data, .slice h.A n.ptrs.length h.a, .int .i64 n.size, .int .i64 n.count, .slice h.B n.items.length h.b] recT)
 rw [← lay_length l ps0] at hsl
 obtain ⟨y, rfl, hyb, hsy⟩ := slots_atR (k := k) (by rw [lay_length] at hsl ⊢; exact hsl) (by rw [lay_length]; exact hk)
 rw [lay_length] at hsl
 have HGET : Hid (∀ V : World, Below (w1.alloc (.cells #[.slice (some x) l.length c, .int .i64 ((layF l ps0).2.ls.words : Int), .int .i64 ((layF l ps0).2.ptrs : Int), (.slice (some y) l.length cp1), .int .i64 (tagL l), .int .i64 n.kind, .string n.data, .slice h.A n.ptrs.length h.a, .int .i64 n.size, .int .i64 n.count, .slice h.B n.items.length h.b] recT)).heap.size (w1.alloc (.cells #[.slice (some x) l.length c, .int .i64 ((layF l ps0).2.ls.words : Int), .int .i64 ((layF l ps0).2.ptrs : Int), (.slice (some y) l.length cp1), .int .i64 (tagL l), .int .i64 n.kind, .string n.data, .slice h.A n.ptrs.length h.a, .int .i64 n.size, .int .i64 n.count, .slice h.B n.items.length h.b] recT)) V → Calls Tryz.prog 31 #[.pointer (some ⟨w1.heap.size, 0, none⟩), .int .i64 (k : Int)] V fun e w' => e = .returned (.agg #[.int .i64 (xorI xv (l[k]).els), .int .i64 yv.kind, .string yv.data, .slice hv.A yv.ptrs.length hv.a, .int .i64 yv.size, .int .i64 yv.count, .slice hv.B yv.items.length hv.b]) ∧ Below V.heap.size V w') := Lib.hid fun V hV => by
  have hxV := (HL.out.below hb2).below hV
  obtain ⟨x', hx', hxb', hx2⟩ := hxV.at2 hk
  obtain rfl := Option.some.inj hx'
  have hrV := HREC.out.below hV
  refine rget_a w1.heap.size x y c cp1 l n h k hk _ V hrV hxb' hx2.c2 hl12 xv yv hv (fun W hW => ?_)
  have hx3 := hx2.below hW (by rw [addr_block]; exact hxb')
  have hyV : y.block < V.heap.size := Nat.lt_of_lt_of_le hyb hV.size
  have hsV := (hV.cell (p := y.add k) (by rw [addr_block]; exact hyb)).trans hsy
  exact HRAW W w1.heap.size x y cp1 ((hb2.trans (hV.mono hb2.size)).trans (hW.mono (Nat.le_trans hb2.size hV.size))) rfl (Nat.lt_of_lt_of_le hxb' hW.size) (hrV.below hW) (Nat.lt_of_lt_of_le hyV hW.size) (by rw [fldK_at hk]; exact hx3.c0) ((hW.cell (p := y.add k) (by rw [addr_block]; exact hyV)).trans hsV)
 rw [htb] at HTL
 have hk9 : ((k : Nat) : Int) < l.length := by omega
 clear hb1 hba hb2 hr2 hyes hok hown htb hx HRAW hny hyz hsl hsy hyb
 unfold NewO at HCP
 rw [HX9.out] at HGET
 unfold recV
 go_wp2_with (go_at_call 27; refine (within_any _ _ _).mono ?_; rintro e w' ⟨rfl, rfl⟩; rw [HWI.out])
 generalize w1.alloc (.cells #[.slice (some x) l.length c, .int .i64 ((layF l ps0).2.ls.words : Int), .int .i64 ((layF l ps0).2.ptrs : Int), (.slice (some y) l.length cp1), .int .i64 (tagL l), .int .i64 n.kind, .string n.data, .slice h.A n.ptrs.length h.a, .int .i64 n.size, .int .i64 n.count, .slice h.B n.items.length h.b] recT) = W2 at *
 refine HTL.out.mono ?_
 rintro e w3 ⟨rfl, hb3⟩
 have HB3 := Lib.hid (HB2.out.trans (hb3.mono HB2.out.size))
 have HC3 := Lib.hid hb3
 clear hb3
 go_wp2_with fail
 refine (HGET.out _ HC3.out).mono ?_
 rintro e w6 ⟨rfl, hb6⟩
 have HB6 := Lib.hid (HB3.out.trans (hb6.mono HB3.out.size))
 have hr6 := ((HC3.out.trans (hb6.mono HC3.out.size)).block _ (row_lt HR2.out)).trans HR2.out
 have hn := heap_alloc_new w6 (.cells #[.int .i64 X9, .int .i64 yv.kind, .string yv.data, .slice hv.A yv.ptrs.length hv.a, .int .i64 yv.size, .int .i64 yv.count, .slice hv.B yv.items.length hv.b] valT)
 have hb7 : Below w6.heap.size w6 (w6.alloc (.cells #[.int .i64 X9, .int .i64 yv.kind, .string yv.data, .slice hv.A yv.ptrs.length hv.a, .int .i64 yv.size, .int .i64 yv.count, .slice hv.B yv.items.length hv.b] valT)) := (Below.refl _ _).alloc (Nat.le_refl _) _
 have HB7 := Lib.hid (HB6.out.trans (hb7.mono HB6.out.size))
 have HR7 := Lib.hid ((hb7.block _ (row_lt hr6)).trans hr6)
 have HN7 := Lib.hid hn
 have hl6 := row_lt hr6
 obtain ⟨z0, z1, z2, z3, z4, z5, z6⟩ := cellsV hn
 clear hb6 hr6 hn hb7
 go_wp2_with fail
 generalize w6.alloc (.cells #[.int .i64 X9, .int .i64 yv.kind, .string yv.data, .slice hv.A yv.ptrs.length hv.a, .int .i64 yv.size, .int .i64 yv.count, .slice hv.B yv.items.length hv.b] valT) = W7 at *
 clear z0 z1 z2 z3 z4 z5 z6
 refine (HCP.out _ HB7.out).mono ?_
 rintro e w8 ⟨h5, bs, rfl, ho, hd5, hg5, hb8⟩
 have hr8 := (hb8.block _ (row_lt HN7.out)).trans HN7.out
 have HZ8 := Lib.hid ((hb8.block _ (row_lt HR7.out)).trans HR7.out)
 have HB8 := Lib.hid (HB7.out.trans (hb8.mono HB7.out.size))
 have HR8 := Lib.hid hr8
 have HO := Lib.hid ho
 have HG := Lib.hid (And.intro hd5 hg5)
 have HL7 := Lib.hid (row_lt HN7.out)
 obtain ⟨z0, z1, z2, z3, z4, z5, z6⟩ := cellsV hr8
 have zf := row_free hr8
 obtain ⟨w9, hw9, hrw9, hbf9, hkf9⟩ := finW (w := w) (R := w.heap.size) (.int .i64 yv.kind) (.string yv.data) (.slice h5.A yv.ptrs.length h5.a) (.int .i64 yv.size) (.int .i64 yv.count) (.slice h5.B yv.items.length h5.b) HR8.out HB8.out (by omega)
 have hz9 := (hkf9 _ (by omega)).trans HZ8.out
 obtain ⟨f0, f1, f2, f3, f4, f5, f6⟩ := cellsV hrw9
 obtain ⟨g0, g1, g2, g3, g4, g5, g6⟩ := cellsV hz9
 have gf := row_free hz9
 have HW9 := Lib.hid hw9
 have HBF9 := Lib.hid hbf9
 have HK9 := Lib.hid hkf9
 have HZ9 := Lib.hid hz9
 clear hbf9 hkf9 hz9 hb8 ho hd5 hg5 hr8
 go_wp2_with (fail)
 obtain ⟨wA, hwA, hrwA, hbfA, hkfA⟩ := finV (w := w) (R := w.heap.size) (.int .i64 X9) (.int .i64 yv.kind) (.string yv.data) (.slice h5.A yv.ptrs.length h5.a) (.int .i64 yv.size) (.int .i64 yv.count) (.slice h5.B yv.items.length h5.b) HZ9.out HBF9.out (by omega)
 try rw [hwA]
 obtain ⟨e0, e1, e2, e3, e4, e5, e6⟩ := cellsV hrwA
 exact bodyPost_ret (v := .tuple #[.agg #[.int .i64 X9, .int .i64 yv.kind, .string yv.data, .slice h5.A yv.ptrs.length h5.a, .int .i64 yv.size, .int .i64 yv.count, .slice h5.B yv.items.length h5.b], .bool true]) (by simp [results, Tryz.results8, go_sem, e0, e1, e2, e3, e4, e5, e6]) rfl ⟨h5, bs, rfl, HO.out.frame (fun b hb => (hkfA _ (by have := HG.out.2 b hb; have := HL7.out; omega)).trans (HK9.out _ (by have := HG.out.2 b hb; have := HL7.out; omega))), HG.out.1, fun b hb => by have := HG.out.2 b hb; have := HL7.out; omega, hbfA⟩
end Go.Proofs.YtblcibgphccfkaaGreatDoor
