/- Texts of the proof of the law FnRecordOf, side by side: part 13. -/
import Derived.Deep.RegionHeld3
import Derived.Test.YtblcibgphccfkaaGreatDoorMRecordOf12
set_option maxHeartbeats 8000000
set_option maxRecDepth 100000
namespace Go.Proofs.YtblcibgphccfkaaGreatDoor
open Go.RowKit Go.Deep
abbrev numA (z : Int) : Value := .agg #[.int .i64 z, .int .i64 0, .string { data := #[] }, .slice none 0 0, .int .i64 0, .int .i64 0, .slice none 0 0]
theorem getBit_a (n : Nd) (h : Hd) (at_ : Int) (w : World) (hd : n.data.size ≤ maxLen) :
 Calls Tryz.prog 96 #[.agg #[.int .i64 n.kind, .string n.data, .slice h.A n.ptrs.length h.a, .int .i64 n.size, .int .i64 n.count, .slice h.B n.items.length h.b], .int .i64 at_] w fun e w' => e = .returned (numV (bitI n.data.data.toList at_)) ∧ Below w.heap.size w w' := by
 have hax : (w.alloc (.cells #[.int .i64 n.kind, .string n.data, .slice h.A n.ptrs.length h.a, .int .i64 n.size, .int .i64 n.count, .slice h.B n.items.length h.b] nodeT)).heap.size = w.heap.size + 1 := by simp
 have hbx : Below w.heap.size w ((w.alloc (.cells #[.int .i64 n.kind, .string n.data, .slice h.A n.ptrs.length h.a, .int .i64 n.size, .int .i64 n.count, .slice h.B n.items.length h.b] nodeT)).alloc (.cells #[.int .i64 0, .int .i64 0, .string { data := #[] }, .slice none 0 0, .int .i64 0, .int .i64 0, .slice none 0 0] valT)) := ((Below.refl _ _).alloc (Nat.le_refl _) _).alloc (by simp) _
 have hg0 : ((w.alloc (.cells #[.int .i64 n.kind, .string n.data, .slice h.A n.ptrs.length h.a, .int .i64 n.size, .int .i64 n.count, .slice h.B n.items.length h.b] nodeT)).alloc (.cells #[.int .i64 0, .int .i64 0, .string { data := #[] }, .slice none 0 0, .int .i64 0, .int .i64 0, .slice none 0 0] valT)).heap[w.heap.size]? = some (.cells #[.int .i64 n.kind, .string n.data, .slice h.A n.ptrs.length h.a, .int .i64 n.size, .int .i64 n.count, .slice h.B n.items.length h.b] nodeT (0, 0)) := heap_alloc_keep (heap_alloc_new w _) _
 have hg1 : ((w.alloc (.cells #[.int .i64 n.kind, .string n.data, .slice h.A n.ptrs.length h.a, .int .i64 n.size, .int .i64 n.count, .slice h.B n.items.length h.b] nodeT)).alloc (.cells #[.int .i64 0, .int .i64 0, .string { data := #[] }, .slice none 0 0, .int .i64 0, .int .i64 0, .slice none 0 0] valT)).heap[w.heap.size + 1]? = some (.cells #[.int .i64 0, .int .i64 0, .string { data := #[] }, .slice none 0 0, .int .i64 0, .int .i64 0, .slice none 0 0] valT (0, 0)) := hax ▸ heap_alloc_new _ _
 obtain ⟨a0, a1, a2, a3, a4, a5⟩ := cells6 hg0
 have HB0 := Lib.hid hbx
 have HG1 := Lib.hid hg1
 clear hbx hg0 hg1 hax
 go_enter Tryz.func96, Tryz.ntmps96
 go_wp2_with fail
 clear a0 a1 a2 a3 a4 a5
 generalize ((w.alloc (.cells #[.int .i64 n.kind, .string n.data, .slice h.A n.ptrs.length h.a, .int .i64 n.size, .int .i64 n.count, .slice h.B n.items.length h.b] nodeT)).alloc (.cells #[.int .i64 0, .int .i64 0, .string { data := #[] }, .slice none 0 0, .int .i64 0, .int .i64 0, .slice none 0 0] valT)) = W at *
 refine (implBitGet_any n.data at_ W hd).mono ?_
 rintro e w2 ⟨rfl, hb2⟩
 have hs := HB0.out.size
 have HB2 := Lib.hid (HB0.out.trans (hb2.mono hs))
 have hr := (hb2.block _ (row_lt HG1.out)).trans HG1.out
 have HR := Lib.hid hr
 obtain ⟨z0, z1, z2, z3, z4, z5, z6⟩ := cells7r hr
 have zf := row_free hr
 obtain ⟨gv, hgv⟩ : ∃ gv, bitI n.data.data.toList at_ = gv := ⟨_, rfl⟩
 have HGV := Lib.hid hgv
 rw [hgv]
 clear hgv
 clear hb2 hr
 go_wp2_with fail
 obtain ⟨wf, hwf, hrw, hbf, -, -⟩ := fin7 (R := w.heap.size) (.int .i64 gv) (.int .i64 0) (.string ⟨#[]⟩) (.slice none 0 0) (.int .i64 0) (.int .i64 0) (.slice none 0 0) HR.out HB2.out (by omega)
 rw [hwf]
 obtain ⟨e0, e1, e2, e3, e4, e5, e6⟩ := cells7r hrw
 exact bodyPost_ret (v := numV gv) (by simp [results, Tryz.results96, go_sem, numV, e0, e1, e2, e3, e4, e5, e6]) rfl ⟨by rw [HGV.out], hbf⟩
theorem getNode_out (n : Nd) (h : Hd) (at_ : Int) (w : World) (h0 : 0 ≤ at_) (hl : (n.ptrs.length : Int) ≤ at_) (hm : n.ptrs.length ≤ maxLen) :
 Calls Tryz.prog 99 #[.agg #[.int .i64 n.kind, .string n.data, .slice h.A n.ptrs.length h.a, .int .i64 n.size, .int .i64 n.count, .slice h.B n.items.length h.b], .int .i64 at_] w fun e w' => e = .returned (numA 0) ∧ Below w.heap.size w w' := by
 have q0 := al_first w (.cells #[.int .i64 n.kind, .string n.data, .slice h.A n.ptrs.length h.a, .int .i64 n.size, .int .i64 n.count, .slice h.B n.items.length h.b] nodeT)
 have q1 := al_next q0 (.cells #[.int .i64 0, .int .i64 0, .string { data := #[] }, .slice none 0 0, .int .i64 0, .int .i64 0, .slice none 0 0] valT)
 have r0 := heap_alloc_new w (.cells #[.int .i64 n.kind, .string n.data, .slice h.A n.ptrs.length h.a, .int .i64 n.size, .int .i64 n.count, .slice h.B n.items.length h.b] nodeT)
 have r1 := al_row q0 #[.int .i64 0, .int .i64 0, .string { data := #[] }, .slice none 0 0, .int .i64 0, .int .i64 0, .slice none 0 0] valT
 obtain ⟨a0, a1, a2, a3, a4, a5⟩ := cells6 r0
 obtain ⟨z0, z1, z2, z3, z4, z5, z6⟩ := cellsV r1
 have zf := row_free r1
 have HB0 := Lib.hid q1.2
 have HR1 := Lib.hid r1
 clear q1 q0 r0 r1
 go_enter Tryz.func99, Tryz.ntmps99
 go_wp2_with fail
 obtain ⟨y0, y1, y2, y3, y4, y5, y6⟩ := cellsV HR1.out
 exact bodyPost_ret (v := numA 0) (by simp [results, Tryz.results99, go_sem, y0, y1, y2, y3, y4, y5, y6]) rfl ⟨rfl, HB0.out⟩
theorem getNode_in (n : Nd) (x : Addr) (ca : Nat) (B : Option Addr) (cb : Nat) (k : Nat) (y : Nd) (hy : Hd) (w : World) (hk : k < n.ptrs.length) (hm : n.ptrs.length ≤ maxLen) (hc : NdCell w (x.add (k * 6)) y hy) :
 Calls Tryz.prog 99 #[.agg #[.int .i64 n.kind, .string n.data, .slice (some x) n.ptrs.length ca, .int .i64 n.size, .int .i64 n.count, .slice B n.items.length cb], .int .i64 (k : Int)] w fun e w' => e = .returned (valV 0 y hy) ∧ Below w.heap.size w w' := by
 have q0 := al_first w (.cells #[.int .i64 n.kind, .string n.data, .slice (some x) n.ptrs.length ca, .int .i64 n.size, .int .i64 n.count, .slice B n.items.length cb] nodeT)
 have q1 := al_next q0 (.cells #[.int .i64 0, .int .i64 0, .string { data := #[] }, .slice none 0 0, .int .i64 0, .int .i64 0, .slice none 0 0] valT)
 have r0 := heap_alloc_keep (heap_alloc_new w (.cells #[.int .i64 n.kind, .string n.data, .slice (some x) n.ptrs.length ca, .int .i64 n.size, .int .i64 n.count, .slice B n.items.length cb] nodeT)) (.cells #[.int .i64 0, .int .i64 0, .string { data := #[] }, .slice none 0 0, .int .i64 0, .int .i64 0, .slice none 0 0] valT)
 have r1 := al_row q0 #[.int .i64 0, .int .i64 0, .string { data := #[] }, .slice none 0 0, .int .i64 0, .int .i64 0, .slice none 0 0] valT
 obtain ⟨a0, a1, a2, a3, a4, a5⟩ := cells6 r0
 obtain ⟨z0, z1, z2, z3, z4, z5, z6⟩ := cellsV r1
 have zf := row_free r1
 obtain ⟨d0, d1, d2, d3, d4, d5⟩ := hc.block (q1.2.block _ hc.lt)
 have HB0 := Lib.hid q1.2
 have HR1 := Lib.hid r1
 have hge : ¬ ((n.ptrs.length : Int) ≤ k) := by omega
 clear q1 q0 r0 r1 hc
 go_enter Tryz.func99, Tryz.ntmps99
 go_wp2_with fail
 have r2 := al_row (al_first w (.cells #[.int .i64 n.kind, .string n.data, .slice (some x) n.ptrs.length ca, .int .i64 n.size, .int .i64 n.count, .slice B n.items.length cb] nodeT)) #[.int .i64 0, .int .i64 y.kind, .string y.data, .slice hy.A y.ptrs.length hy.a, .int .i64 y.size, .int .i64 y.count, .slice hy.B y.items.length hy.b] valT
 obtain ⟨y0, y1, y2, y3, y4, y5, y6⟩ := cellsV r2
 exact bodyPost_ret (v := valV 0 y hy) (by simp [results, Tryz.results99, go_sem, y0, y1, y2, y3, y4, y5, y6]) rfl ⟨rfl, (al_next (al_first w (.cells #[.int .i64 n.kind, .string n.data, .slice (some x) n.ptrs.length ca, .int .i64 n.size, .int .i64 n.count, .slice B n.items.length cb] nodeT)) _).2⟩
end Go.Proofs.YtblcibgphccfkaaGreatDoor
