/- Texts of the proof of the law FnRecordGet, side by side: part 23. -/
import Derived.Test.YtblcibgphccfkaaGreatDoorMRecordGet22
set_option maxHeartbeats 8000000
set_option maxRecDepth 100000
namespace Go.Proofs.YtblcibgphccfkaaGreatDoor
open Go.RowKit Go.Deep
theorem cells3R {w : World} {g : Nat} {v0 v1 v2 : Value} {T : TypeId} (h : w.heap[g]? = some (.cells #[v0, v1, v2] T (0, 0))) : w.cell? ⟨g, 0, none⟩ = some v0 ∧ w.cell? ⟨g, 1, none⟩ = some v1 ∧ w.cell? ⟨g, 2, none⟩ = some v2 := by
 refine ⟨?_, ?_, ?_⟩ <;> (rw [cell_of_row _ _ _ _ _ _ h]; rfl)
theorem rgS_no (A : Option Addr) (c : Nat) (l : List Fld) (m : Nat) (n : Nd) (h : Hd) (w : World) (S : Nat → Prop) (h1w : 1 < w.heap.size) (hl : Flds w A l) (hll : l.length ≤ 10000000) (hn : NdAt w S m n h) (htn : totN m n ≤ 2000000) (a : Int) (M : Nat) (hno : recB l n = false) :
 Calls Tryz.prog 9 #[.slice A l.length c, .agg #[.int .i64 n.kind, .string n.data, .slice h.A n.ptrs.length h.a, .int .i64 n.size, .int .i64 n.count, .slice h.B n.items.length h.b], .int .i64 a] w (NewVal M 0 noneNd false w) := by
 have q0 := al_first w (.cells #[.int .i64 n.kind, .string n.data, .slice h.A n.ptrs.length h.a, .int .i64 n.size, .int .i64 n.count, .slice h.B n.items.length h.b] nodeT)
 have q1 := al_next q0 (.cells #[.int .i64 0, .int .i64 0, .string { data := #[] }, .slice none 0 0, .int .i64 0, .int .i64 0, .slice none 0 0] valT)
 have r0 := heap_alloc_keep (heap_alloc_new w (.cells #[.int .i64 n.kind, .string n.data, .slice h.A n.ptrs.length h.a, .int .i64 n.size, .int .i64 n.count, .slice h.B n.items.length h.b] nodeT)) (.cells #[.int .i64 0, .int .i64 0, .string { data := #[] }, .slice none 0 0, .int .i64 0, .int .i64 0, .slice none 0 0] valT)
 have r1 := al_row q0 #[.int .i64 0, .int .i64 0, .string { data := #[] }, .slice none 0 0, .int .i64 0, .int .i64 0, .slice none 0 0] valT
 have HB0 := Lib.hid q1.2
 have R0 := Lib.hid r0
 have R1 := Lib.hid r1
 have HIS := Lib.hid (fun (W : World) (hW : Below w.heap.size w W) => l8Is_a A c l m n h W S (hl.below hW) hll (hn.below hW) htn)
 have HL := Lib.hid hl
 have HH1 := Lib.hid h1w
 obtain ⟨a0, a1, a2, a3, a4, a5⟩ := cells6 r0
 rw [hno] at HIS
 clear q1 q0 r0 r1 hl hn htn h1w
 go_enter Tryz.func9, Tryz.ntmps9
 go_wp2_with fail
 clear a0 a1 a2 a3 a4 a5
 generalize (w.alloc (.cells #[.int .i64 n.kind, .string n.data, .slice h.A n.ptrs.length h.a, .int .i64 n.size, .int .i64 n.count, .slice h.B n.items.length h.b] nodeT)).alloc (.cells #[.int .i64 0, .int .i64 0, .string { data := #[] }, .slice none 0 0, .int .i64 0, .int .i64 0, .slice none 0 0] valT) = W at *
 refine (HIS.out _ HB0.out).mono ?_
 rintro e w1 ⟨rfl, hb1⟩
 have HB1 := Lib.hid (HB0.out.trans (hb1.mono HB0.out.size))
 have X0 := Lib.hid ((hb1.block _ (row_lt R0.out)).trans R0.out)
 have X1 := Lib.hid ((hb1.block _ (row_lt R1.out)).trans R1.out)
 clear hb1
 obtain ⟨z0, z1, z2, z3, z4, z5, z6⟩ := cellsV X1.out
 have zf := row_free X1.out
 go_wp2_with fail
 obtain ⟨wf, hwf, hrw, hbf, hkf⟩ := finV (w := w) (R := w.heap.size) (.int .i64 0) (.int .i64 0) (.string { data := #[] }) (.slice none 0 0) (.int .i64 0) (.int .i64 0) (.slice none 0 0) X1.out HB1.out (by omega)
 try rw [hwf]
 obtain ⟨e0, e1, e2, e3, e4, e5, e6⟩ := cellsV hrw
 exact bodyPost_ret (v := .tuple #[.agg #[.int .i64 0, .int .i64 0, .string { data := #[] }, .slice none 0 0, .int .i64 0, .int .i64 0, .slice none 0 0], .bool false]) (by simp [results, Tryz.results9, go_sem, e0, e1, e2, e3, e4, e5, e6]) rfl (NewVal.none rfl hbf)
theorem rgS_out (A : Option Addr) (c : Nat) (l : List Fld) (m : Nat) (n : Nd) (h : Hd) (w : World) (S : Nat → Prop) (h1w : 1 < w.heap.size) (hl : Flds w A l) (hll : l.length ≤ 10000000) (hn : NdAt w S m n h) (htn : totN m n ≤ 2000000) (a : Int) (M : Nat) (hyes : recB l n = true) (hout : withB a l.length = false) :
 Calls Tryz.prog 9 #[.slice A l.length c, .agg #[.int .i64 n.kind, .string n.data, .slice h.A n.ptrs.length h.a, .int .i64 n.size, .int .i64 n.count, .slice h.B n.items.length h.b], .int .i64 a] w (NewVal M 0 noneNd false w) := by
 have q0 := al_first w (.cells #[.int .i64 n.kind, .string n.data, .slice h.A n.ptrs.length h.a, .int .i64 n.size, .int .i64 n.count, .slice h.B n.items.length h.b] nodeT)
 have q1 := al_next q0 (.cells #[.int .i64 0, .int .i64 0, .string { data := #[] }, .slice none 0 0, .int .i64 0, .int .i64 0, .slice none 0 0] valT)
 have r0 := heap_alloc_keep (heap_alloc_new w (.cells #[.int .i64 n.kind, .string n.data, .slice h.A n.ptrs.length h.a, .int .i64 n.size, .int .i64 n.count, .slice h.B n.items.length h.b] nodeT)) (.cells #[.int .i64 0, .int .i64 0, .string { data := #[] }, .slice none 0 0, .int .i64 0, .int .i64 0, .slice none 0 0] valT)
 have r1 := al_row q0 #[.int .i64 0, .int .i64 0, .string { data := #[] }, .slice none 0 0, .int .i64 0, .int .i64 0, .slice none 0 0] valT
 have HB0 := Lib.hid q1.2
 have R0 := Lib.hid r0
 have R1 := Lib.hid r1
 have HIS := Lib.hid (fun (W : World) (hW : Below w.heap.size w W) => l8Is_a A c l m n h W S (hl.below hW) hll (hn.below hW) htn)
 have HL := Lib.hid hl
 have HH1 := Lib.hid h1w
 obtain ⟨a0, a1, a2, a3, a4, a5⟩ := cells6 r0
 rw [hyes] at HIS
 have hl12 := fldsOk_len (rec_data hyes).2.2
 have HIN : Hid (inB a 0 ((l.length : Int) - 1) = false) := Lib.hid (by
  have e : inB a 0 ((l.length : Int) - 1) = withB a l.length := by rw [Bool.eq_iff_iff]; simp [inB, withB]; omega
  rw [e, hout])
 clear hout hyes
 clear q1 q0 r0 r1 hl hn htn h1w
 go_enter Tryz.func9, Tryz.ntmps9
 go_wp2_with fail
 clear a0 a1 a2 a3 a4 a5
 generalize (w.alloc (.cells #[.int .i64 n.kind, .string n.data, .slice h.A n.ptrs.length h.a, .int .i64 n.size, .int .i64 n.count, .slice h.B n.items.length h.b] nodeT)).alloc (.cells #[.int .i64 0, .int .i64 0, .string { data := #[] }, .slice none 0 0, .int .i64 0, .int .i64 0, .slice none 0 0] valT) = W at *
 refine (HIS.out _ HB0.out).mono ?_
 rintro e w1 ⟨rfl, hb1⟩
 have HB1 := Lib.hid (HB0.out.trans (hb1.mono HB0.out.size))
 have X0 := Lib.hid ((hb1.block _ (row_lt R0.out)).trans R0.out)
 have X1 := Lib.hid ((hb1.block _ (row_lt R1.out)).trans R1.out)
 clear hb1
 obtain ⟨z0, z1, z2, z3, z4, z5, z6⟩ := cellsV X1.out
 have zf := row_free X1.out
 go_wp2_with (go_at_call 34; refine (l1In_any _ _ _ _).mono ?_; rintro e w' ⟨rfl, rfl⟩; rw [HIN.out])
 obtain ⟨wf, hwf, hrw, hbf, hkf⟩ := finV (w := w) (R := w.heap.size) (.int .i64 0) (.int .i64 0) (.string { data := #[] }) (.slice none 0 0) (.int .i64 0) (.int .i64 0) (.slice none 0 0) X1.out HB1.out (by omega)
 try rw [hwf]
 obtain ⟨e0, e1, e2, e3, e4, e5, e6⟩ := cellsV hrw
 exact bodyPost_ret (v := .tuple #[.agg #[.int .i64 0, .int .i64 0, .string { data := #[] }, .slice none 0 0, .int .i64 0, .int .i64 0, .slice none 0 0], .bool false]) (by simp [results, Tryz.results9, go_sem, e0, e1, e2, e3, e4, e5, e6]) rfl (NewVal.none rfl hbf)
theorem rgS_untold (A : Option Addr) (c : Nat) (l : List Fld) (m : Nat) (n : Nd) (h : Hd) (w : World) (S : Nat → Prop) (h1w : 1 < w.heap.size) (hl : Flds w A l) (hll : l.length ≤ 10000000) (hn : NdAt w S m n h) (htn : totN m n ≤ 2000000) (k : Nat) (a : Int) (hak : a = (k : Int)) (hyes : recB l n = true) (hk : k < l.length) (z el : Int) (fc : Bool) (hf : l[k] = ⟨z, fc, el⟩) (M : Nat) (hfc : fc = true) (htg : 0 ≤ tagL l) (hne : choN l n ≠ (plcN l k : Int)) :
 Calls Tryz.prog 9 #[.slice A l.length c, .agg #[.int .i64 n.kind, .string n.data, .slice h.A n.ptrs.length h.a, .int .i64 n.size, .int .i64 n.count, .slice h.B n.items.length h.b], .int .i64 a] w (NewVal M 0 noneNd false w) := by
 have q0 := al_first w (.cells #[.int .i64 n.kind, .string n.data, .slice h.A n.ptrs.length h.a, .int .i64 n.size, .int .i64 n.count, .slice h.B n.items.length h.b] nodeT)
 have q1 := al_next q0 (.cells #[.int .i64 0, .int .i64 0, .string { data := #[] }, .slice none 0 0, .int .i64 0, .int .i64 0, .slice none 0 0] valT)
 have r0 := heap_alloc_keep (heap_alloc_new w (.cells #[.int .i64 n.kind, .string n.data, .slice h.A n.ptrs.length h.a, .int .i64 n.size, .int .i64 n.count, .slice h.B n.items.length h.b] nodeT)) (.cells #[.int .i64 0, .int .i64 0, .string { data := #[] }, .slice none 0 0, .int .i64 0, .int .i64 0, .slice none 0 0] valT)
 have r1 := al_row q0 #[.int .i64 0, .int .i64 0, .string { data := #[] }, .slice none 0 0, .int .i64 0, .int .i64 0, .slice none 0 0] valT
 have HB0 := Lib.hid q1.2
 have R0 := Lib.hid r0
 have R1 := Lib.hid r1
 have HIS := Lib.hid (fun (W : World) (hW : Below w.heap.size w W) => l8Is_a A c l m n h W S (hl.below hW) hll (hn.below hW) htn)
 have HL := Lib.hid hl
 have HH1 := Lib.hid h1w
 obtain ⟨a0, a1, a2, a3, a4, a5⟩ := cells6 r0
 subst hak
 rw [hyes] at HIS
 have hok9 := (rec_data hyes).2.2
 have hl12 := fldsOk_len hok9
 have HD := Lib.hid hn.1
 have HIN : Hid (inB (k : Int) 0 ((l.length : Int) - 1) = true) := Lib.hid (by simp [inB]; omega)
 have HLY := Lib.hid (fun (W : World) (hW : Below w.heap.size w W) => l7Layout_any A c l W (Nat.lt_of_lt_of_le HH1.out hW.size) (HL.out.below hW) hok9)
 have HPL := Lib.hid (fun (W : World) (hW : Below w.heap.size w W) => l8Choice_a A c l k hk W (HL.out.below hW) hl12)
 have HCH := Lib.hid (fun (A1 : Option Addr) (ln cp1 : Nat) (W : World) => l8Chosen_a A1 ln cp1 l n h W HD.out hyes)
 subst hfc
 have htg2 : decide (0 ≤ tagL l) = true := by simp; omega
 have HNE : Hid (((choN l n) != ((plcN l k : Nat) : Int)) = true) := Lib.hid (by simpa using hne)
 clear hne
 clear q1 q0 r0 r1 hl hn htn h1w
 go_enter Tryz.func9, Tryz.ntmps9
 go_wp2_with fail
 clear a0 a1 a2 a3 a4 a5
 generalize (w.alloc (.cells #[.int .i64 n.kind, .string n.data, .slice h.A n.ptrs.length h.a, .int .i64 n.size, .int .i64 n.count, .slice h.B n.items.length h.b] nodeT)).alloc (.cells #[.int .i64 0, .int .i64 0, .string { data := #[] }, .slice none 0 0, .int .i64 0, .int .i64 0, .slice none 0 0] valT) = W at *
 refine (HIS.out _ HB0.out).mono ?_
 rintro e w1 ⟨rfl, hb1⟩
 have HB1 := Lib.hid (HB0.out.trans (hb1.mono HB0.out.size))
 have X0 := Lib.hid ((hb1.block _ (row_lt R0.out)).trans R0.out)
 have X1 := Lib.hid ((hb1.block _ (row_lt R1.out)).trans R1.out)
 clear hb1
 have hl1 : 1 ≤ l.length := by omega
 have hk9 : ((k : Nat) : Int) < l.length := by omega
 go_wp2_with (go_at_call 34; refine (l1In_any _ _ _ _).mono ?_; rintro e w' ⟨rfl, rfl⟩; rw [HIN.out])
 refine (HLY.out _ HB1.out).mono ?_
 rintro e w2 ⟨v1, rfl, hown, hb2⟩
 have HB2 := Lib.hid (HB1.out.trans (hb2.mono HB1.out.size))
 have Y0 := Lib.hid ((hb2.block _ (row_lt X0.out)).trans X0.out)
 have Y1 := Lib.hid ((hb2.block _ (row_lt X1.out)).trans X1.out)
 obtain ⟨A1, cp1, rfl⟩ := own_slice2 hown
 obtain ⟨y, rfl, hyb, hsy⟩ := slots_atR (l := (layF l ps0).1) (k := k) (by rw [lay_length]; exact hown) (by rw [lay_length]; exact hk)
 have hsy' : w2.cell? (y.add k) = some (.int .i64 (atF l k : Nat)) := hsy
 obtain ⟨x, rfl, hxb, hx⟩ := (HL.out.below HB2.out).at2 hk
 rw [hf] at hx
 have p0 := al_first w2 (.cells #[.int .i64 ((layF l ps0).2.ls.words : Int), .int .i64 ((layF l ps0).2.ptrs : Int), .slice (some y) l.length cp1, .int .i64 (tagL l)] 37)
 have p1 := al_next p0 (.cells #[.int .i64 z, .bool true, .int .i64 el] 41)
 have hB4 := Lib.hid (HB2.out.trans (p1.2.mono HB2.out.size))
 have HSZ := Lib.hid p1.1
 have HLR := Lib.hid (heap_alloc_keep (heap_alloc_new w2 (.cells #[.int .i64 ((layF l ps0).2.ls.words : Int), .int .i64 ((layF l ps0).2.ptrs : Int), .slice (some y) l.length cp1, .int .i64 (tagL l)] 37)) (.cells #[.int .i64 z, .bool true, .int .i64 el] 41))
 have HFR := Lib.hid (al_row p0 #[.int .i64 z, .bool true, .int .i64 el] 41)
 have HY0 := Lib.hid ((p1.2.block _ (row_lt Y0.out)).trans Y0.out)
 have HY1 := Lib.hid ((p1.2.block _ (row_lt Y1.out)).trans Y1.out)
 have HYC := Lib.hid ((p1.2.cell (p := y.add k) (by rw [addr_block]; exact hyb)).trans hsy')
 have HYB : Hid ((y.add k).block < w2.heap.size) := Lib.hid (by rw [addr_block]; exact hyb)
 have hx4 := hx.below p0.2 (by rw [addr_block]; exact hxb)
 obtain ⟨x0, x1, x2⟩ := hx4
 obtain ⟨l0, l1, l2, l3⟩ := cells4 HLR.out
 obtain ⟨f0, f1, f2⟩ := cells3R HFR.out
 obtain ⟨n0, n1, n2, n3, n4, n5⟩ := cells6 HY0.out
 have yk := HYC.out
 have hlv : layV l (.slice (some y) l.length cp1) = .agg #[.int .i64 ((layF l ps0).2.ls.words : Int), .int .i64 ((layF l ps0).2.ptrs : Int), .slice (some y) l.length cp1, .int .i64 (tagL l)] := rfl
 rw [hlv]
 clear hlv p0 p1 hown hyb hsy hsy' hxb hx hb2 hf hyes hok9
 generalize choN l n = cv at *
 generalize ((plcN l k : Nat) : Int) = pv at *
 go_wp2_with fail
 generalize (w2.alloc (.cells #[.int .i64 ((layF l ps0).2.ls.words : Int), .int .i64 ((layF l ps0).2.ptrs : Int), .slice (some y) l.length cp1, .int .i64 (tagL l)] 37)).alloc (.cells #[.int .i64 z, .bool true, .int .i64 el] 41) = W4 at *
 clear l0 l1 l2 l3 f0 f1 f2 n0 n1 n2 n3 n4 n5 yk
 clear x0 x1 x2
 unfold layV4 at HCH
 refine (HCH.out _ _ _ _).mono ?_
 rintro e w5 ⟨rfl, hb5⟩
 have HC5 := Lib.hid hb5
 have HB5 := Lib.hid (hB4.out.trans (hb5.mono hB4.out.size))
 clear hb5
 go_wp2_with fail
 refine (HPL.out _ HB5.out).mono ?_
 rintro e w6 ⟨rfl, hb6⟩
 have HC6 := Lib.hid (HC5.out.trans (hb6.mono HC5.out.size))
 have HB6 := Lib.hid (HB5.out.trans (hb6.mono HB5.out.size))
 clear hb6
 have hne9 := HNE.out
 have HLR6 := Lib.hid ((HC6.out.block _ (row_lt HLR.out)).trans HLR.out)
 have HFR6 := Lib.hid ((HC6.out.block _ (row_lt HFR.out)).trans HFR.out)
 have HN6 := Lib.hid ((HC6.out.block _ (row_lt HY0.out)).trans HY0.out)
 have HZ6 := Lib.hid ((HC6.out.block _ (row_lt HY1.out)).trans HY1.out)
 have HY6 := Lib.hid ((HC6.out.cell (p := y.add k) (by have := HYB.out; have := HSZ.out; omega)).trans HYC.out)
 obtain ⟨z0, z1, z2, z3, z4, z5, z6⟩ := cellsV HZ6.out
 have zf := row_free HZ6.out
 go_wp2_with fail
 obtain ⟨wf, hwf, hrw, hbf, hkf⟩ := finV (w := w) (R := w.heap.size) (.int .i64 0) (.int .i64 0) (.string { data := #[] }) (.slice none 0 0) (.int .i64 0) (.int .i64 0) (.slice none 0 0) HZ6.out HB6.out (by omega)
 try rw [hwf]
 obtain ⟨e0, e1, e2, e3, e4, e5, e6⟩ := cellsV hrw
 exact bodyPost_ret (v := .tuple #[.agg #[.int .i64 0, .int .i64 0, .string { data := #[] }, .slice none 0 0, .int .i64 0, .int .i64 0, .slice none 0 0], .bool false]) (by simp [results, Tryz.results9, go_sem, e0, e1, e2, e3, e4, e5, e6]) rfl (NewVal.none rfl hbf)
theorem rgS_numF (A : Option Addr) (c : Nat) (l : List Fld) (m : Nat) (n : Nd) (h : Hd) (w : World) (S : Nat → Prop) (h1w : 1 < w.heap.size) (hl : Flds w A l) (hll : l.length ≤ 10000000) (hn : NdAt w S m n h) (htn : totN m n ≤ 2000000) (k : Nat) (a : Int) (hak : a = (k : Int)) (hyes : recB l n = true) (hk : k < l.length) (z el : Int) (fc : Bool) (hf : l[k] = ⟨z, fc, el⟩) (hfc : fc = false) (M : Nat) (hz6 : (z == 6) = false) (xv : Int) (HNUM : ∀ (W : World) (fc : Bool), Calls Tryz.prog 39 #[.agg #[.int .i64 z, .bool fc, .int .i64 el], .string n.data, .int .i64 (atF l k : Nat)] W fun e w' => e = .returned (.int .i64 xv) ∧ Below W.heap.size W w') :
 Calls Tryz.prog 9 #[.slice A l.length c, .agg #[.int .i64 n.kind, .string n.data, .slice h.A n.ptrs.length h.a, .int .i64 n.size, .int .i64 n.count, .slice h.B n.items.length h.b], .int .i64 a] w (NewVal M xv noneNd true w) := by
 have q0 := al_first w (.cells #[.int .i64 n.kind, .string n.data, .slice h.A n.ptrs.length h.a, .int .i64 n.size, .int .i64 n.count, .slice h.B n.items.length h.b] nodeT)
 have q1 := al_next q0 (.cells #[.int .i64 0, .int .i64 0, .string { data := #[] }, .slice none 0 0, .int .i64 0, .int .i64 0, .slice none 0 0] valT)
 have r0 := heap_alloc_keep (heap_alloc_new w (.cells #[.int .i64 n.kind, .string n.data, .slice h.A n.ptrs.length h.a, .int .i64 n.size, .int .i64 n.count, .slice h.B n.items.length h.b] nodeT)) (.cells #[.int .i64 0, .int .i64 0, .string { data := #[] }, .slice none 0 0, .int .i64 0, .int .i64 0, .slice none 0 0] valT)
 have r1 := al_row q0 #[.int .i64 0, .int .i64 0, .string { data := #[] }, .slice none 0 0, .int .i64 0, .int .i64 0, .slice none 0 0] valT
 have HB0 := Lib.hid q1.2
 have R0 := Lib.hid r0
 have R1 := Lib.hid r1
 have HIS := Lib.hid (fun (W : World) (hW : Below w.heap.size w W) => l8Is_a A c l m n h W S (hl.below hW) hll (hn.below hW) htn)
 have HL := Lib.hid hl
 have HH1 := Lib.hid h1w
 obtain ⟨a0, a1, a2, a3, a4, a5⟩ := cells6 r0
 subst hak
 rw [hyes] at HIS
 have hok9 := (rec_data hyes).2.2
 have hl12 := fldsOk_len hok9
 have HD := Lib.hid hn.1
 have HIN : Hid (inB (k : Int) 0 ((l.length : Int) - 1) = true) := Lib.hid (by simp [inB]; omega)
 have HLY := Lib.hid (fun (W : World) (hW : Below w.heap.size w W) => l7Layout_any A c l W (Nat.lt_of_lt_of_le HH1.out hW.size) (HL.out.below hW) hok9)
 have HPL := Lib.hid (fun (W : World) (hW : Below w.heap.size w W) => l8Choice_a A c l k hk W (HL.out.below hW) hl12)
 have HCH := Lib.hid (fun (A1 : Option Addr) (ln cp1 : Nat) (W : World) => l8Chosen_a A1 ln cp1 l n h W HD.out hyes)
 have HNU := Lib.hid HNUM
 clear HNUM
 subst hfc
 clear q1 q0 r0 r1 hl hn htn h1w
 go_enter Tryz.func9, Tryz.ntmps9
 go_wp2_with fail
 clear a0 a1 a2 a3 a4 a5
 generalize (w.alloc (.cells #[.int .i64 n.kind, .string n.data, .slice h.A n.ptrs.length h.a, .int .i64 n.size, .int .i64 n.count, .slice h.B n.items.length h.b] nodeT)).alloc (.cells #[.int .i64 0, .int .i64 0, .string { data := #[] }, .slice none 0 0, .int .i64 0, .int .i64 0, .slice none 0 0] valT) = W at *
 refine (HIS.out _ HB0.out).mono ?_
 rintro e w1 ⟨rfl, hb1⟩
 have HB1 := Lib.hid (HB0.out.trans (hb1.mono HB0.out.size))
 have X0 := Lib.hid ((hb1.block _ (row_lt R0.out)).trans R0.out)
 have X1 := Lib.hid ((hb1.block _ (row_lt R1.out)).trans R1.out)
 clear hb1
 have hl1 : 1 ≤ l.length := by omega
 have hk9 : ((k : Nat) : Int) < l.length := by omega
 go_wp2_with (go_at_call 34; refine (l1In_any _ _ _ _).mono ?_; rintro e w' ⟨rfl, rfl⟩; rw [HIN.out])
 refine (HLY.out _ HB1.out).mono ?_
 rintro e w2 ⟨v1, rfl, hown, hb2⟩
 have HB2 := Lib.hid (HB1.out.trans (hb2.mono HB1.out.size))
 have Y0 := Lib.hid ((hb2.block _ (row_lt X0.out)).trans X0.out)
 have Y1 := Lib.hid ((hb2.block _ (row_lt X1.out)).trans X1.out)
 obtain ⟨A1, cp1, rfl⟩ := own_slice2 hown
 obtain ⟨y, rfl, hyb, hsy⟩ := slots_atR (l := (layF l ps0).1) (k := k) (by rw [lay_length]; exact hown) (by rw [lay_length]; exact hk)
 have hsy' : w2.cell? (y.add k) = some (.int .i64 (atF l k : Nat)) := hsy
 obtain ⟨x, rfl, hxb, hx⟩ := (HL.out.below HB2.out).at2 hk
 rw [hf] at hx
 have p0 := al_first w2 (.cells #[.int .i64 ((layF l ps0).2.ls.words : Int), .int .i64 ((layF l ps0).2.ptrs : Int), .slice (some y) l.length cp1, .int .i64 (tagL l)] 37)
 have p1 := al_next p0 (.cells #[.int .i64 z, .bool false, .int .i64 el] 41)
 have hB4 := Lib.hid (HB2.out.trans (p1.2.mono HB2.out.size))
 have HSZ := Lib.hid p1.1
 have HLR := Lib.hid (heap_alloc_keep (heap_alloc_new w2 (.cells #[.int .i64 ((layF l ps0).2.ls.words : Int), .int .i64 ((layF l ps0).2.ptrs : Int), .slice (some y) l.length cp1, .int .i64 (tagL l)] 37)) (.cells #[.int .i64 z, .bool false, .int .i64 el] 41))
 have HFR := Lib.hid (al_row p0 #[.int .i64 z, .bool false, .int .i64 el] 41)
 have HY0 := Lib.hid ((p1.2.block _ (row_lt Y0.out)).trans Y0.out)
 have HY1 := Lib.hid ((p1.2.block _ (row_lt Y1.out)).trans Y1.out)
 have HYC := Lib.hid ((p1.2.cell (p := y.add k) (by rw [addr_block]; exact hyb)).trans hsy')
 have HYB : Hid ((y.add k).block < w2.heap.size) := Lib.hid (by rw [addr_block]; exact hyb)
 have hx4 := hx.below p0.2 (by rw [addr_block]; exact hxb)
 obtain ⟨x0, x1, x2⟩ := hx4
 obtain ⟨l0, l1, l2, l3⟩ := cells4 HLR.out
 obtain ⟨f0, f1, f2⟩ := cells3R HFR.out
 obtain ⟨n0, n1, n2, n3, n4, n5⟩ := cells6 HY0.out
 have yk := HYC.out
 have hlv : layV l (.slice (some y) l.length cp1) = .agg #[.int .i64 ((layF l ps0).2.ls.words : Int), .int .i64 ((layF l ps0).2.ptrs : Int), .slice (some y) l.length cp1, .int .i64 (tagL l)] := rfl
 rw [hlv]
 clear hlv p0 p1 hown hyb hsy hsy' hxb hx hb2 hf hyes hok9
 have HLR6 := HLR
 have HFR6 := HFR
 have HN6 := HY0
 have HZ6 := HY1
 have HB6 := hB4
 obtain ⟨z0, z1, z2, z3, z4, z5, z6⟩ := cellsV HZ6.out
 have zf := row_free HZ6.out
 go_wp2_with fail
 clear l0 l1 l2 l3 f0 f1 f2 n0 n1 n2 n3 n4 n5 yk z0 z1 z2 z3 z4 z5 z6 zf
 try clear x0 x1 x2
 try generalize hW : (w2.alloc (.cells #[.int .i64 ((layF l ps0).2.ls.words : Int), .int .i64 ((layF l ps0).2.ptrs : Int), .slice (some y) l.length cp1, .int .i64 (tagL l)] 37)).alloc (.cells #[.int .i64 z, .bool false, .int .i64 el] 41) = w6 at *
 refine (HNU.out _ _).mono ?_
 rintro e w7 ⟨rfl, hb7⟩
 have HB7 := Lib.hid (HB6.out.trans (hb7.mono HB6.out.size))
 have HZ7 := Lib.hid ((hb7.block _ (row_lt HZ6.out)).trans HZ6.out)
 clear hb7
 obtain ⟨z0, z1, z2, z3, z4, z5, z6⟩ := cellsV HZ7.out
 have zf := row_free HZ7.out
 go_wp2_with fail
 obtain ⟨wf, hwf, hrw, hbf, hkf⟩ := finV (w := w) (R := w.heap.size) (.int .i64 xv) (.int .i64 0) (.string { data := #[] }) (.slice none 0 0) (.int .i64 0) (.int .i64 0) (.slice none 0 0) HZ7.out HB7.out (by omega)
 try rw [hwf]
 obtain ⟨e0, e1, e2, e3, e4, e5, e6⟩ := cellsV hrw
 exact bodyPost_ret (v := .tuple #[.agg #[.int .i64 xv, .int .i64 0, .string { data := #[] }, .slice none 0 0, .int .i64 0, .int .i64 0, .slice none 0 0], .bool true]) (by simp [results, Tryz.results9, go_sem, e0, e1, e2, e3, e4, e5, e6]) rfl (NewVal.none rfl hbf)
theorem rgS_numN (A : Option Addr) (c : Nat) (l : List Fld) (m : Nat) (n : Nd) (h : Hd) (w : World) (S : Nat → Prop) (h1w : 1 < w.heap.size) (hl : Flds w A l) (hll : l.length ≤ 10000000) (hn : NdAt w S m n h) (htn : totN m n ≤ 2000000) (k : Nat) (a : Int) (hak : a = (k : Int)) (hyes : recB l n = true) (hk : k < l.length) (z el : Int) (fc : Bool) (hf : l[k] = ⟨z, fc, el⟩) (hfc : fc = true) (htg : tagL l < 0) (M : Nat) (hz6 : (z == 6) = false) (xv : Int) (HNUM : ∀ (W : World) (fc : Bool), Calls Tryz.prog 39 #[.agg #[.int .i64 z, .bool fc, .int .i64 el], .string n.data, .int .i64 (atF l k : Nat)] W fun e w' => e = .returned (.int .i64 xv) ∧ Below W.heap.size W w') :
 Calls Tryz.prog 9 #[.slice A l.length c, .agg #[.int .i64 n.kind, .string n.data, .slice h.A n.ptrs.length h.a, .int .i64 n.size, .int .i64 n.count, .slice h.B n.items.length h.b], .int .i64 a] w (NewVal M xv noneNd true w) := by
 have q0 := al_first w (.cells #[.int .i64 n.kind, .string n.data, .slice h.A n.ptrs.length h.a, .int .i64 n.size, .int .i64 n.count, .slice h.B n.items.length h.b] nodeT)
 have q1 := al_next q0 (.cells #[.int .i64 0, .int .i64 0, .string { data := #[] }, .slice none 0 0, .int .i64 0, .int .i64 0, .slice none 0 0] valT)
 have r0 := heap_alloc_keep (heap_alloc_new w (.cells #[.int .i64 n.kind, .string n.data, .slice h.A n.ptrs.length h.a, .int .i64 n.size, .int .i64 n.count, .slice h.B n.items.length h.b] nodeT)) (.cells #[.int .i64 0, .int .i64 0, .string { data := #[] }, .slice none 0 0, .int .i64 0, .int .i64 0, .slice none 0 0] valT)
 have r1 := al_row q0 #[.int .i64 0, .int .i64 0, .string { data := #[] }, .slice none 0 0, .int .i64 0, .int .i64 0, .slice none 0 0] valT
 have HB0 := Lib.hid q1.2
 have R0 := Lib.hid r0
 have R1 := Lib.hid r1
 have HIS := Lib.hid (fun (W : World) (hW : Below w.heap.size w W) => l8Is_a A c l m n h W S (hl.below hW) hll (hn.below hW) htn)
 have HL := Lib.hid hl
 have HH1 := Lib.hid h1w
 obtain ⟨a0, a1, a2, a3, a4, a5⟩ := cells6 r0
 subst hak
 rw [hyes] at HIS
 have hok9 := (rec_data hyes).2.2
 have hl12 := fldsOk_len hok9
 have HD := Lib.hid hn.1
 have HIN : Hid (inB (k : Int) 0 ((l.length : Int) - 1) = true) := Lib.hid (by simp [inB]; omega)
 have HLY := Lib.hid (fun (W : World) (hW : Below w.heap.size w W) => l7Layout_any A c l W (Nat.lt_of_lt_of_le HH1.out hW.size) (HL.out.below hW) hok9)
 have HPL := Lib.hid (fun (W : World) (hW : Below w.heap.size w W) => l8Choice_a A c l k hk W (HL.out.below hW) hl12)
 have HCH := Lib.hid (fun (A1 : Option Addr) (ln cp1 : Nat) (W : World) => l8Chosen_a A1 ln cp1 l n h W HD.out hyes)
 have HNU := Lib.hid HNUM
 clear HNUM
 subst hfc
 have htg2 : decide (0 ≤ tagL l) = false := by simp; omega
 clear q1 q0 r0 r1 hl hn htn h1w
 go_enter Tryz.func9, Tryz.ntmps9
 go_wp2_with fail
 clear a0 a1 a2 a3 a4 a5
 generalize (w.alloc (.cells #[.int .i64 n.kind, .string n.data, .slice h.A n.ptrs.length h.a, .int .i64 n.size, .int .i64 n.count, .slice h.B n.items.length h.b] nodeT)).alloc (.cells #[.int .i64 0, .int .i64 0, .string { data := #[] }, .slice none 0 0, .int .i64 0, .int .i64 0, .slice none 0 0] valT) = W at *
 refine (HIS.out _ HB0.out).mono ?_
 rintro e w1 ⟨rfl, hb1⟩
 have HB1 := Lib.hid (HB0.out.trans (hb1.mono HB0.out.size))
 have X0 := Lib.hid ((hb1.block _ (row_lt R0.out)).trans R0.out)
 have X1 := Lib.hid ((hb1.block _ (row_lt R1.out)).trans R1.out)
 clear hb1
 have hl1 : 1 ≤ l.length := by omega
 have hk9 : ((k : Nat) : Int) < l.length := by omega
 go_wp2_with (go_at_call 34; refine (l1In_any _ _ _ _).mono ?_; rintro e w' ⟨rfl, rfl⟩; rw [HIN.out])
 refine (HLY.out _ HB1.out).mono ?_
 rintro e w2 ⟨v1, rfl, hown, hb2⟩
 have HB2 := Lib.hid (HB1.out.trans (hb2.mono HB1.out.size))
 have Y0 := Lib.hid ((hb2.block _ (row_lt X0.out)).trans X0.out)
 have Y1 := Lib.hid ((hb2.block _ (row_lt X1.out)).trans X1.out)
 obtain ⟨A1, cp1, rfl⟩ := own_slice2 hown
 obtain ⟨y, rfl, hyb, hsy⟩ := slots_atR (l := (layF l ps0).1) (k := k) (by rw [lay_length]; exact hown) (by rw [lay_length]; exact hk)
 have hsy' : w2.cell? (y.add k) = some (.int .i64 (atF l k : Nat)) := hsy
 obtain ⟨x, rfl, hxb, hx⟩ := (HL.out.below HB2.out).at2 hk
 rw [hf] at hx
 have p0 := al_first w2 (.cells #[.int .i64 ((layF l ps0).2.ls.words : Int), .int .i64 ((layF l ps0).2.ptrs : Int), .slice (some y) l.length cp1, .int .i64 (tagL l)] 37)
 have p1 := al_next p0 (.cells #[.int .i64 z, .bool true, .int .i64 el] 41)
 have hB4 := Lib.hid (HB2.out.trans (p1.2.mono HB2.out.size))
 have HSZ := Lib.hid p1.1
 have HLR := Lib.hid (heap_alloc_keep (heap_alloc_new w2 (.cells #[.int .i64 ((layF l ps0).2.ls.words : Int), .int .i64 ((layF l ps0).2.ptrs : Int), .slice (some y) l.length cp1, .int .i64 (tagL l)] 37)) (.cells #[.int .i64 z, .bool true, .int .i64 el] 41))
 have HFR := Lib.hid (al_row p0 #[.int .i64 z, .bool true, .int .i64 el] 41)
 have HY0 := Lib.hid ((p1.2.block _ (row_lt Y0.out)).trans Y0.out)
 have HY1 := Lib.hid ((p1.2.block _ (row_lt Y1.out)).trans Y1.out)
 have HYC := Lib.hid ((p1.2.cell (p := y.add k) (by rw [addr_block]; exact hyb)).trans hsy')
 have HYB : Hid ((y.add k).block < w2.heap.size) := Lib.hid (by rw [addr_block]; exact hyb)
 have hx4 := hx.below p0.2 (by rw [addr_block]; exact hxb)
 obtain ⟨x0, x1, x2⟩ := hx4
 obtain ⟨l0, l1, l2, l3⟩ := cells4 HLR.out
 obtain ⟨f0, f1, f2⟩ := cells3R HFR.out
 obtain ⟨n0, n1, n2, n3, n4, n5⟩ := cells6 HY0.out
 have yk := HYC.out
 have hlv : layV l (.slice (some y) l.length cp1) = .agg #[.int .i64 ((layF l ps0).2.ls.words : Int), .int .i64 ((layF l ps0).2.ptrs : Int), .slice (some y) l.length cp1, .int .i64 (tagL l)] := rfl
 rw [hlv]
 clear hlv p0 p1 hown hyb hsy hsy' hxb hx hb2 hf hyes hok9
 have HLR6 := HLR
 have HFR6 := HFR
 have HN6 := HY0
 have HZ6 := HY1
 have HB6 := hB4
 obtain ⟨z0, z1, z2, z3, z4, z5, z6⟩ := cellsV HZ6.out
 have zf := row_free HZ6.out
 go_wp2_with fail
 clear l0 l1 l2 l3 f0 f1 f2 n0 n1 n2 n3 n4 n5 yk z0 z1 z2 z3 z4 z5 z6 zf
 try clear x0 x1 x2
 try generalize hW : (w2.alloc (.cells #[.int .i64 ((layF l ps0).2.ls.words : Int), .int .i64 ((layF l ps0).2.ptrs : Int), .slice (some y) l.length cp1, .int .i64 (tagL l)] 37)).alloc (.cells #[.int .i64 z, .bool true, .int .i64 el] 41) = w6 at *
 refine (HNU.out _ _).mono ?_
 rintro e w7 ⟨rfl, hb7⟩
 have HB7 := Lib.hid (HB6.out.trans (hb7.mono HB6.out.size))
 have HZ7 := Lib.hid ((hb7.block _ (row_lt HZ6.out)).trans HZ6.out)
 clear hb7
 obtain ⟨z0, z1, z2, z3, z4, z5, z6⟩ := cellsV HZ7.out
 have zf := row_free HZ7.out
 go_wp2_with fail
 obtain ⟨wf, hwf, hrw, hbf, hkf⟩ := finV (w := w) (R := w.heap.size) (.int .i64 xv) (.int .i64 0) (.string { data := #[] }) (.slice none 0 0) (.int .i64 0) (.int .i64 0) (.slice none 0 0) HZ7.out HB7.out (by omega)
 try rw [hwf]
 obtain ⟨e0, e1, e2, e3, e4, e5, e6⟩ := cellsV hrw
 exact bodyPost_ret (v := .tuple #[.agg #[.int .i64 xv, .int .i64 0, .string { data := #[] }, .slice none 0 0, .int .i64 0, .int .i64 0, .slice none 0 0], .bool true]) (by simp [results, Tryz.results9, go_sem, e0, e1, e2, e3, e4, e5, e6]) rfl (NewVal.none rfl hbf)
theorem rgS_numT (A : Option Addr) (c : Nat) (l : List Fld) (m : Nat) (n : Nd) (h : Hd) (w : World) (S : Nat → Prop) (h1w : 1 < w.heap.size) (hl : Flds w A l) (hll : l.length ≤ 10000000) (hn : NdAt w S m n h) (htn : totN m n ≤ 2000000) (k : Nat) (a : Int) (hak : a = (k : Int)) (hyes : recB l n = true) (hk : k < l.length) (z el : Int) (fc : Bool) (hf : l[k] = ⟨z, fc, el⟩) (hfc : fc = true) (htg : 0 ≤ tagL l) (heq : choN l n = (plcN l k : Int)) (M : Nat) (hz6 : (z == 6) = false) (xv : Int) (HNUM : ∀ (W : World) (fc : Bool), Calls Tryz.prog 39 #[.agg #[.int .i64 z, .bool fc, .int .i64 el], .string n.data, .int .i64 (atF l k : Nat)] W fun e w' => e = .returned (.int .i64 xv) ∧ Below W.heap.size W w') :
 Calls Tryz.prog 9 #[.slice A l.length c, .agg #[.int .i64 n.kind, .string n.data, .slice h.A n.ptrs.length h.a, .int .i64 n.size, .int .i64 n.count, .slice h.B n.items.length h.b], .int .i64 a] w (NewVal M xv noneNd true w) := by
 have q0 := al_first w (.cells #[.int .i64 n.kind, .string n.data, .slice h.A n.ptrs.length h.a, .int .i64 n.size, .int .i64 n.count, .slice h.B n.items.length h.b] nodeT)
 have q1 := al_next q0 (.cells #[.int .i64 0, .int .i64 0, .string { data := #[] }, .slice none 0 0, .int .i64 0, .int .i64 0, .slice none 0 0] valT)
 have r0 := heap_alloc_keep (heap_alloc_new w (.cells #[.int .i64 n.kind, .string n.data, .slice h.A n.ptrs.length h.a, .int .i64 n.size, .int .i64 n.count, .slice h.B n.items.length h.b] nodeT)) (.cells #[.int .i64 0, .int .i64 0, .string { data := #[] }, .slice none 0 0, .int .i64 0, .int .i64 0, .slice none 0 0] valT)
 have r1 := al_row q0 #[.int .i64 0, .int .i64 0, .string { data := #[] }, .slice none 0 0, .int .i64 0, .int .i64 0, .slice none 0 0] valT
 have HB0 := Lib.hid q1.2
 have R0 := Lib.hid r0
 have R1 := Lib.hid r1
 have HIS := Lib.hid (fun (W : World) (hW : Below w.heap.size w W) => l8Is_a A c l m n h W S (hl.below hW) hll (hn.below hW) htn)
 have HL := Lib.hid hl
 have HH1 := Lib.hid h1w
 obtain ⟨a0, a1, a2, a3, a4, a5⟩ := cells6 r0
 subst hak
 rw [hyes] at HIS
 have hok9 := (rec_data hyes).2.2
 have hl12 := fldsOk_len hok9
 have HD := Lib.hid hn.1
 have HIN : Hid (inB (k : Int) 0 ((l.length : Int) - 1) = true) := Lib.hid (by simp [inB]; omega)
 have HLY := Lib.hid (fun (W : World) (hW : Below w.heap.size w W) => l7Layout_any A c l W (Nat.lt_of_lt_of_le HH1.out hW.size) (HL.out.below hW) hok9)
 have HPL := Lib.hid (fun (W : World) (hW : Below w.heap.size w W) => l8Choice_a A c l k hk W (HL.out.below hW) hl12)
 have HCH := Lib.hid (fun (A1 : Option Addr) (ln cp1 : Nat) (W : World) => l8Chosen_a A1 ln cp1 l n h W HD.out hyes)
 have HNU := Lib.hid HNUM
 clear HNUM
 subst hfc
 have htg2 : decide (0 ≤ tagL l) = true := by simp; omega
 have HNE : Hid (((choN l n) != ((plcN l k : Nat) : Int)) = false) := Lib.hid (by simpa using heq)
 clear heq
 clear q1 q0 r0 r1 hl hn htn h1w
 go_enter Tryz.func9, Tryz.ntmps9
 go_wp2_with fail
 clear a0 a1 a2 a3 a4 a5
 generalize (w.alloc (.cells #[.int .i64 n.kind, .string n.data, .slice h.A n.ptrs.length h.a, .int .i64 n.size, .int .i64 n.count, .slice h.B n.items.length h.b] nodeT)).alloc (.cells #[.int .i64 0, .int .i64 0, .string { data := #[] }, .slice none 0 0, .int .i64 0, .int .i64 0, .slice none 0 0] valT) = W at *
 refine (HIS.out _ HB0.out).mono ?_
 rintro e w1 ⟨rfl, hb1⟩
 have HB1 := Lib.hid (HB0.out.trans (hb1.mono HB0.out.size))
 have X0 := Lib.hid ((hb1.block _ (row_lt R0.out)).trans R0.out)
 have X1 := Lib.hid ((hb1.block _ (row_lt R1.out)).trans R1.out)
 clear hb1
 have hl1 : 1 ≤ l.length := by omega
 have hk9 : ((k : Nat) : Int) < l.length := by omega
 go_wp2_with (go_at_call 34; refine (l1In_any _ _ _ _).mono ?_; rintro e w' ⟨rfl, rfl⟩; rw [HIN.out])
 refine (HLY.out _ HB1.out).mono ?_
 rintro e w2 ⟨v1, rfl, hown, hb2⟩
 have HB2 := Lib.hid (HB1.out.trans (hb2.mono HB1.out.size))
 have Y0 := Lib.hid ((hb2.block _ (row_lt X0.out)).trans X0.out)
 have Y1 := Lib.hid ((hb2.block _ (row_lt X1.out)).trans X1.out)
 obtain ⟨A1, cp1, rfl⟩ := own_slice2 hown
 obtain ⟨y, rfl, hyb, hsy⟩ := slots_atR (l := (layF l ps0).1) (k := k) (by rw [lay_length]; exact hown) (by rw [lay_length]; exact hk)
 have hsy' : w2.cell? (y.add k) = some (.int .i64 (atF l k : Nat)) := hsy
 obtain ⟨x, rfl, hxb, hx⟩ := (HL.out.below HB2.out).at2 hk
 rw [hf] at hx
 have p0 := al_first w2 (.cells #[.int .i64 ((layF l ps0).2.ls.words : Int), .int .i64 ((layF l ps0).2.ptrs : Int), .slice (some y) l.length cp1, .int .i64 (tagL l)] 37)
 have p1 := al_next p0 (.cells #[.int .i64 z, .bool true, .int .i64 el] 41)
 have hB4 := Lib.hid (HB2.out.trans (p1.2.mono HB2.out.size))
 have HSZ := Lib.hid p1.1
 have HLR := Lib.hid (heap_alloc_keep (heap_alloc_new w2 (.cells #[.int .i64 ((layF l ps0).2.ls.words : Int), .int .i64 ((layF l ps0).2.ptrs : Int), .slice (some y) l.length cp1, .int .i64 (tagL l)] 37)) (.cells #[.int .i64 z, .bool true, .int .i64 el] 41))
 have HFR := Lib.hid (al_row p0 #[.int .i64 z, .bool true, .int .i64 el] 41)
 have HY0 := Lib.hid ((p1.2.block _ (row_lt Y0.out)).trans Y0.out)
 have HY1 := Lib.hid ((p1.2.block _ (row_lt Y1.out)).trans Y1.out)
 have HYC := Lib.hid ((p1.2.cell (p := y.add k) (by rw [addr_block]; exact hyb)).trans hsy')
 have HYB : Hid ((y.add k).block < w2.heap.size) := Lib.hid (by rw [addr_block]; exact hyb)
 have hx4 := hx.below p0.2 (by rw [addr_block]; exact hxb)
 obtain ⟨x0, x1, x2⟩ := hx4
 obtain ⟨l0, l1, l2, l3⟩ := cells4 HLR.out
 obtain ⟨f0, f1, f2⟩ := cells3R HFR.out
 obtain ⟨n0, n1, n2, n3, n4, n5⟩ := cells6 HY0.out
 have yk := HYC.out
 have hlv : layV l (.slice (some y) l.length cp1) = .agg #[.int .i64 ((layF l ps0).2.ls.words : Int), .int .i64 ((layF l ps0).2.ptrs : Int), .slice (some y) l.length cp1, .int .i64 (tagL l)] := rfl
 rw [hlv]
 clear hlv p0 p1 hown hyb hsy hsy' hxb hx hb2 hf hyes hok9
 generalize choN l n = cv at *
 generalize ((plcN l k : Nat) : Int) = pv at *
 go_wp2_with fail
 generalize (w2.alloc (.cells #[.int .i64 ((layF l ps0).2.ls.words : Int), .int .i64 ((layF l ps0).2.ptrs : Int), .slice (some y) l.length cp1, .int .i64 (tagL l)] 37)).alloc (.cells #[.int .i64 z, .bool true, .int .i64 el] 41) = W4 at *
 clear l0 l1 l2 l3 f0 f1 f2 n0 n1 n2 n3 n4 n5 yk
 clear x0 x1 x2
 unfold layV4 at HCH
 refine (HCH.out _ _ _ _).mono ?_
 rintro e w5 ⟨rfl, hb5⟩
 have HC5 := Lib.hid hb5
 have HB5 := Lib.hid (hB4.out.trans (hb5.mono hB4.out.size))
 clear hb5
 go_wp2_with fail
 refine (HPL.out _ HB5.out).mono ?_
 rintro e w6 ⟨rfl, hb6⟩
 have HC6 := Lib.hid (HC5.out.trans (hb6.mono HC5.out.size))
 have HB6 := Lib.hid (HB5.out.trans (hb6.mono HB5.out.size))
 clear hb6
 have hne9 := HNE.out
 have HLR6 := Lib.hid ((HC6.out.block _ (row_lt HLR.out)).trans HLR.out)
 have HFR6 := Lib.hid ((HC6.out.block _ (row_lt HFR.out)).trans HFR.out)
 have HN6 := Lib.hid ((HC6.out.block _ (row_lt HY0.out)).trans HY0.out)
 have HZ6 := Lib.hid ((HC6.out.block _ (row_lt HY1.out)).trans HY1.out)
 have HY6 := Lib.hid ((HC6.out.cell (p := y.add k) (by have := HYB.out; have := HSZ.out; omega)).trans HYC.out)
 obtain ⟨l0, l1, l2, l3⟩ := cells4 HLR6.out
 obtain ⟨f0, f1, f2⟩ := cells3R HFR6.out
 obtain ⟨n0, n1, n2, n3, n4, n5⟩ := cells6 HN6.out
 have yk := HY6.out
 obtain ⟨z0, z1, z2, z3, z4, z5, z6⟩ := cellsV HZ6.out
 have zf := row_free HZ6.out
 go_wp2_with fail
 clear l0 l1 l2 l3 f0 f1 f2 n0 n1 n2 n3 n4 n5 yk z0 z1 z2 z3 z4 z5 z6 zf
 try clear x0 x1 x2
 try generalize hW : w6 = w6 at *
 refine (HNU.out _ _).mono ?_
 rintro e w7 ⟨rfl, hb7⟩
 have HB7 := Lib.hid (HB6.out.trans (hb7.mono HB6.out.size))
 have HZ7 := Lib.hid ((hb7.block _ (row_lt HZ6.out)).trans HZ6.out)
 clear hb7
 obtain ⟨z0, z1, z2, z3, z4, z5, z6⟩ := cellsV HZ7.out
 have zf := row_free HZ7.out
 go_wp2_with fail
 obtain ⟨wf, hwf, hrw, hbf, hkf⟩ := finV (w := w) (R := w.heap.size) (.int .i64 xv) (.int .i64 0) (.string { data := #[] }) (.slice none 0 0) (.int .i64 0) (.int .i64 0) (.slice none 0 0) HZ7.out HB7.out (by omega)
 try rw [hwf]
 obtain ⟨e0, e1, e2, e3, e4, e5, e6⟩ := cellsV hrw
 exact bodyPost_ret (v := .tuple #[.agg #[.int .i64 xv, .int .i64 0, .string { data := #[] }, .slice none 0 0, .int .i64 0, .int .i64 0, .slice none 0 0], .bool true]) (by simp [results, Tryz.results9, go_sem, e0, e1, e2, e3, e4, e5, e6]) rfl (NewVal.none rfl hbf)
end Go.Proofs.YtblcibgphccfkaaGreatDoor
