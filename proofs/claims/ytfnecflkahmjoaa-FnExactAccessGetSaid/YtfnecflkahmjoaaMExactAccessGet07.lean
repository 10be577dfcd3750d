/- Texts of the proof of the law FnExactAccessGet, side by side: part 7. -/
import Derived.Deep.RegionHeld3
import Derived.Test.YtfnecflkahmjoaaMExactAccessGet06
set_option maxHeartbeats 8000000
set_option maxRecDepth 100000
namespace Go.Proofs.Ytfnecflkahmjoaa
open Go.RowKit Go.Deep
def GetQ (v : Value) (ok : Bool) (w : World) (e : Ending) (w' : World) : Prop := e = .returned (.tuple #[v, .bool ok]) ∧ Below w.heap.size w w'
abbrev numA (z : Int) : Value := .agg #[.int .i64 z, .int .i64 0, .string { data := #[] }, .slice none 0 0, .int .i64 0, .int .i64 0, .slice none 0 0]
theorem bitGet_a (n : Nd) (h : Hd) (at_ tu : Int) (b : Nat) (w : World) (hd : n.data.size ≤ maxLen) (k0 : w.heap[b]? = some (.cells #[.int .i64 at_] 3 (0, 0))) (k1 : w.heap[b + 1]? = some (.cells #[.int .i64 tu] 3 (0, 0))) :
 Calls Try.prog 71 #[.agg #[.int .i64 n.kind, .string n.data, .slice h.A n.ptrs.length h.a, .int .i64 n.size, .int .i64 n.count, .slice h.B n.items.length h.b], .pointer (some ⟨b, 0, none⟩), .pointer (some ⟨b + 1, 0, none⟩)] w (GetQ (numA (xorI (bitI (byL n) at_) tu)) true w) := by
 have q0 := al_first w (.cells #[.int .i64 n.kind, .string n.data, .slice h.A n.ptrs.length h.a, .int .i64 n.size, .int .i64 n.count, .slice h.B n.items.length h.b] nodeT)
 have q1 := al_next q0 (.cells #[.int .i64 0, .int .i64 0, .string { data := #[] }, .slice none 0 0, .int .i64 0, .int .i64 0, .slice none 0 0] valT)
 have r0 := heap_alloc_keep (heap_alloc_new w (.cells #[.int .i64 n.kind, .string n.data, .slice h.A n.ptrs.length h.a, .int .i64 n.size, .int .i64 n.count, .slice h.B n.items.length h.b] nodeT)) (.cells #[.int .i64 0, .int .i64 0, .string { data := #[] }, .slice none 0 0, .int .i64 0, .int .i64 0, .slice none 0 0] valT)
 have r1 := al_row q0 #[.int .i64 0, .int .i64 0, .string { data := #[] }, .slice none 0 0, .int .i64 0, .int .i64 0, .slice none 0 0] valT
 have j0 := (q1.2.block _ (row_lt k0)).trans k0
 have c0 := cellA j0
 have j1 := (q1.2.block _ (row_lt k1)).trans k1
 have c1 := cellA j1
 have HJ0 := Lib.hid j0
 have HLB0 := Lib.hid (row_lt k0)
 have HJ1 := Lib.hid j1
 have HLB1 := Lib.hid (row_lt k1)
 obtain ⟨a0, a1, a2, a3, a4, a5⟩ := cells6 r0
 have HB0 := Lib.hid q1.2
 have HR1 := Lib.hid r1
 have HR0 := Lib.hid r0
 have HX : Hid (xorI (bitI (byL n) at_) tu = bits .xor .i64 (bitI (byL n) at_) tu) := Lib.hid rfl
 clear q1 q0 r0 r1 j0 j1 k0 k1
 go_enter Try.func71, Try.ntmps71
 go_wp2_with fail
 generalize (w.alloc (.cells #[.int .i64 n.kind, .string n.data, .slice h.A n.ptrs.length h.a, .int .i64 n.size, .int .i64 n.count, .slice h.B n.items.length h.b] nodeT)).alloc (.cells #[.int .i64 0, .int .i64 0, .string { data := #[] }, .slice none 0 0, .int .i64 0, .int .i64 0, .slice none 0 0] valT) = W at *
 have HDR : Hid (Below W.heap.size W W.drew) := Lib.hid ⟨rfl, rfl, rfl, Nat.le_refl _, fun _ _ => rfl⟩
 have d1 : W.drew.cell? ⟨w.heap.size, 1, none⟩ = some (.string n.data) := a1
 have e0 : W.drew.cell? ⟨b, 0, none⟩ = some (.int .i64 at_) := c0
 have e1 : W.drew.cell? ⟨b + 1, 0, none⟩ = some (.int .i64 tu) := c1
 generalize hgv : bitI (byL n) at_ = gv at *
 have HN0 := Lib.hid (show W.heap[w.heap.size]? = some (.cells #[.int .i64 n.kind, .string n.data, .slice h.A n.ptrs.length h.a, .int .i64 n.size, .int .i64 n.count, .slice h.B n.items.length h.b] nodeT (0, 0)) from HR0.out)
 refine wp_region_held_drew (S := (fun V => V.cell? ⟨w.heap.size, 1, none⟩ = some (.string n.data) ∧ V.cell? ⟨b, 0, none⟩ = some (.int .i64 at_) ∧ V.cell? ⟨b + 1, 0, none⟩ = some (.int .i64 tu))) (by kernel_rfl) ?_ (fun hH0 => ?_)
 · exact ⟨d1, e0, e1⟩
 refine wpAnyH_take (i := 0) (v := ?_) rfl (by kernel_rfl) (by kernel_rfl) (by kernel_rfl) (fun _ _ _ h => h) (Or.inl ⟨by rfl, ?_⟩) (by assumption) ?_
 rotate_left
 · intro w hSw
   (try dsimp only at hSw)
   go_simp
   try with_reducible rfl
 try simp only [List.getElem_toArray, List.getElem_cons_succ, List.getElem_cons_zero, Act.put, List.setIfInBounds_toArray, List.set_cons_zero, List.set_cons_succ]
 refine wpAnyH_take (i := 1) (v := ?_) rfl (by kernel_rfl) (by kernel_rfl) (by kernel_rfl) (fun _ _ _ h => h) (Or.inl ⟨by rfl, ?_⟩) (by assumption) ?_
 rotate_left
 · intro w hSw
   (try dsimp only at hSw)
   go_simp
   try with_reducible rfl
 try simp only [List.getElem_toArray, List.getElem_cons_succ, List.getElem_cons_zero, Act.put, List.setIfInBounds_toArray, List.set_cons_zero, List.set_cons_succ]
 refine wpAnyH_take (i := 2) (v := ?_) rfl (by kernel_rfl) (by kernel_rfl) (by kernel_rfl) (fun _ _ _ h => h) (Or.inl ⟨by rfl, ?_⟩) (by assumption) ?_
 rotate_left
 · intro w hSw
   (try dsimp only at hSw)
   go_simp
   try with_reducible rfl
 try simp only [List.getElem_toArray, List.getElem_cons_succ, List.getElem_cons_zero, Act.put, List.setIfInBounds_toArray, List.set_cons_zero, List.set_cons_succ]
 refine wpAnyH_take (i := 4) (v := ?_) rfl (by kernel_rfl) (by kernel_rfl) (by kernel_rfl) (fun _ _ _ h => h) (Or.inl ⟨by rfl, ?_⟩) (by assumption) ?_
 rotate_left
 · intro w hSw
   (try dsimp only at hSw)
   go_simp
   try with_reducible rfl
 try simp only [List.getElem_toArray, List.getElem_cons_succ, List.getElem_cons_zero, Act.put, List.setIfInBounds_toArray, List.set_cons_zero, List.set_cons_succ]
 refine wpAnyH_ready (rs := [3]) (by kernel_rfl) (by simp) ?_
 refine AllReadyH.cons rfl (fun K hK => ?_) AllReadyH.nil
 go_simp
 go_at_call 72
 refine (implBitGet_any n.data at_ _ hd).mono ?_
 rintro e w2 ⟨rfl, hb2⟩
 rw [hgv]
 have hn2 := (hb2.block _ (row_lt HN0.out)).trans HN0.out
 have u1 : w2.cell? ⟨w.heap.size, 1, none⟩ = some (.string n.data) := (cells6 hn2).2.1
 have j0 := (hb2.block _ (row_lt HJ0.out)).trans HJ0.out
 have v0 := cellA j0
 have j1 := (hb2.block _ (row_lt HJ1.out)).trans HJ1.out
 have v1 := cellA j1
 go_wp2_with fail
 refine hK.out _ _ ?_ (fun hH1 => ?_)
 · exact ⟨u1, v0, v1⟩
 clear hK K hH0
 try simp only [List.getElem_toArray, List.getElem_cons_succ, List.getElem_cons_zero, Act.put, List.setIfInBounds_toArray, List.set_cons_zero, List.set_cons_succ]
 refine wpAnyH_take (i := 5) (v := ?_) rfl (by kernel_rfl) (by kernel_rfl) (by kernel_rfl) (fun _ _ _ h => h) (Or.inl ⟨by rfl, ?_⟩) (by assumption) ?_
 rotate_left
 · intro w hSw
   (try dsimp only at hSw)
   go_simp
   try with_reducible rfl
 try simp only [List.getElem_toArray, List.getElem_cons_succ, List.getElem_cons_zero, Act.put, List.setIfInBounds_toArray, List.set_cons_zero, List.set_cons_succ]
 refine wpAnyH_take (i := 6) (v := ?_) rfl (by kernel_rfl) (by kernel_rfl) (by kernel_rfl) (fun _ _ _ h => h) (Or.inl ⟨by rfl, ?_⟩) (by assumption) ?_
 rotate_left
 · intro w hSw
   (try dsimp only at hSw)
   go_simp
   try with_reducible rfl
 try simp only [List.getElem_toArray, List.getElem_cons_succ, List.getElem_cons_zero, Act.put, List.setIfInBounds_toArray, List.set_cons_zero, List.set_cons_succ]
 have hb3 := HDR.out.trans hb2
 have hs := HB0.out.size
 have hr := (hb2.block _ (row_lt HR1.out)).trans HR1.out
 obtain ⟨z0, z1, z2, z3, z4, z5, z6⟩ := cellsV hr
 have zf := row_free hr
 obtain ⟨wf, hwf, hrw, hbf, hkf⟩ := finV (R := w.heap.size) (.int .i64 (bits .xor .i64 gv tu)) (.int .i64 0) (.string ⟨#[]⟩) (.slice none 0 0) (.int .i64 0) (.int .i64 0) (.slice none 0 0) hr (HB0.out.trans (hb3.mono hs)) (by omega)
 have HWF := Lib.hid hwf
 have HRW := Lib.hid hrw
 have HBF := Lib.hid hbf
 have x1 : wf.cell? ⟨w.heap.size, 1, none⟩ = some (.string n.data) := (cells6 ((hkf _ (by omega)).trans hn2)).2.1
 have y0 := cellA ((hkf _ (by have := HLB0.out; omega)).trans j0)
 have y1 := cellA ((hkf _ (by have := HLB1.out; omega)).trans j1)
 clear hwf hrw hbf hb3 hb2 hr
 refine wpAnyH_ready (rs := [7]) (by kernel_rfl) (by simp) ?_
 refine AllReadyH.cons rfl (fun K hK => ?_) AllReadyH.nil
 go_simp
 rw [HWF.out]
 refine hK.out _ _ ?_ (fun hH3 => ?_)
 · exact ⟨x1, y0, y1⟩
 clear hK K hH1 u1 hn2 v0 j0 v1 j1
 refine wpAnyH_take (i := 8) (v := ?_) rfl (by kernel_rfl) (by kernel_rfl) (by kernel_rfl) (fun _ _ _ h => h) (Or.inl ⟨by rfl, ?_⟩) (by assumption) ?_
 rotate_left
 · intro w hSw
   (try dsimp only at hSw)
   go_simp
   try with_reducible rfl
 try simp only [List.getElem_toArray, List.getElem_cons_succ, List.getElem_cons_zero, Act.put, List.setIfInBounds_toArray, List.set_cons_zero, List.set_cons_succ]
 refine wpAnyH_done (by kernel_rfl) ?_ _
 clear hH3
 try clear a0 a1 a2 a3 a4 a5 d1 c0 c1 e0 e1
 go_wp2
 obtain ⟨e0, e1, e2, e3, e4, e5, e6⟩ := cellsV HRW.out
 exact bodyPost_ret (v := .tuple #[numA (xorI gv tu), .bool true]) (by simp [results, Try.results71, go_sem, HX.out, e0, e1, e2, e3, e4, e5, e6]) rfl ⟨rfl, HBF.out⟩
theorem numGet_a (n : Nd) (h : Hd) (at_ sz tu : Int) (b : Nat) (w : World) (hd : n.data.size ≤ maxLen) (k0 : w.heap[b]? = some (.cells #[.int .i64 at_] 3 (0, 0))) (k1 : w.heap[b + 1]? = some (.cells #[.int .i64 sz] 3 (0, 0))) (k2 : w.heap[b + 2]? = some (.cells #[.int .i64 tu] 3 (0, 0))) :
 Calls Try.prog 75 #[.agg #[.int .i64 n.kind, .string n.data, .slice h.A n.ptrs.length h.a, .int .i64 n.size, .int .i64 n.count, .slice h.B n.items.length h.b], .pointer (some ⟨b, 0, none⟩), .pointer (some ⟨b + 1, 0, none⟩), .pointer (some ⟨b + 2, 0, none⟩)] w (GetQ (numA (xorI (getI (byL n) at_ sz) tu)) true w) := by
 have q0 := al_first w (.cells #[.int .i64 n.kind, .string n.data, .slice h.A n.ptrs.length h.a, .int .i64 n.size, .int .i64 n.count, .slice h.B n.items.length h.b] nodeT)
 have q1 := al_next q0 (.cells #[.int .i64 0, .int .i64 0, .string { data := #[] }, .slice none 0 0, .int .i64 0, .int .i64 0, .slice none 0 0] valT)
 have r0 := heap_alloc_keep (heap_alloc_new w (.cells #[.int .i64 n.kind, .string n.data, .slice h.A n.ptrs.length h.a, .int .i64 n.size, .int .i64 n.count, .slice h.B n.items.length h.b] nodeT)) (.cells #[.int .i64 0, .int .i64 0, .string { data := #[] }, .slice none 0 0, .int .i64 0, .int .i64 0, .slice none 0 0] valT)
 have r1 := al_row q0 #[.int .i64 0, .int .i64 0, .string { data := #[] }, .slice none 0 0, .int .i64 0, .int .i64 0, .slice none 0 0] valT
 have j0 := (q1.2.block _ (row_lt k0)).trans k0
 have c0 := cellA j0
 have j1 := (q1.2.block _ (row_lt k1)).trans k1
 have c1 := cellA j1
 have j2 := (q1.2.block _ (row_lt k2)).trans k2
 have c2 := cellA j2
 have HJ0 := Lib.hid j0
 have HLB0 := Lib.hid (row_lt k0)
 have HJ1 := Lib.hid j1
 have HLB1 := Lib.hid (row_lt k1)
 have HJ2 := Lib.hid j2
 have HLB2 := Lib.hid (row_lt k2)
 obtain ⟨a0, a1, a2, a3, a4, a5⟩ := cells6 r0
 have HB0 := Lib.hid q1.2
 have HR1 := Lib.hid r1
 have HR0 := Lib.hid r0
 have HX : Hid (xorI (getI (byL n) at_ sz) tu = bits .xor .i64 (getI (byL n) at_ sz) tu) := Lib.hid rfl
 clear q1 q0 r0 r1 j0 j1 j2 k0 k1 k2
 go_enter Try.func75, Try.ntmps75
 go_wp2_with fail
 generalize (w.alloc (.cells #[.int .i64 n.kind, .string n.data, .slice h.A n.ptrs.length h.a, .int .i64 n.size, .int .i64 n.count, .slice h.B n.items.length h.b] nodeT)).alloc (.cells #[.int .i64 0, .int .i64 0, .string { data := #[] }, .slice none 0 0, .int .i64 0, .int .i64 0, .slice none 0 0] valT) = W at *
 have HDR : Hid (Below W.heap.size W W.drew) := Lib.hid ⟨rfl, rfl, rfl, Nat.le_refl _, fun _ _ => rfl⟩
 have d1 : W.drew.cell? ⟨w.heap.size, 1, none⟩ = some (.string n.data) := a1
 have e0 : W.drew.cell? ⟨b, 0, none⟩ = some (.int .i64 at_) := c0
 have e1 : W.drew.cell? ⟨b + 1, 0, none⟩ = some (.int .i64 sz) := c1
 have e2 : W.drew.cell? ⟨b + 2, 0, none⟩ = some (.int .i64 tu) := c2
 generalize hgv : getI (byL n) at_ sz = gv at *
 have HN0 := Lib.hid (show W.heap[w.heap.size]? = some (.cells #[.int .i64 n.kind, .string n.data, .slice h.A n.ptrs.length h.a, .int .i64 n.size, .int .i64 n.count, .slice h.B n.items.length h.b] nodeT (0, 0)) from HR0.out)
 refine wp_region_held_drew (S := (fun V => V.cell? ⟨w.heap.size, 1, none⟩ = some (.string n.data) ∧ V.cell? ⟨b, 0, none⟩ = some (.int .i64 at_) ∧ V.cell? ⟨b + 1, 0, none⟩ = some (.int .i64 sz) ∧ V.cell? ⟨b + 2, 0, none⟩ = some (.int .i64 tu))) (by kernel_rfl) ?_ (fun hH0 => ?_)
 · exact ⟨d1, e0, e1, e2⟩
 refine wpAnyH_take (i := 0) (v := ?_) rfl (by kernel_rfl) (by kernel_rfl) (by kernel_rfl) (fun _ _ _ h => h) (Or.inl ⟨by rfl, ?_⟩) (by assumption) ?_
 rotate_left
 · intro w hSw
   (try dsimp only at hSw)
   go_simp
   try with_reducible rfl
 try simp only [List.getElem_toArray, List.getElem_cons_succ, List.getElem_cons_zero, Act.put, List.setIfInBounds_toArray, List.set_cons_zero, List.set_cons_succ]
 refine wpAnyH_take (i := 1) (v := ?_) rfl (by kernel_rfl) (by kernel_rfl) (by kernel_rfl) (fun _ _ _ h => h) (Or.inl ⟨by rfl, ?_⟩) (by assumption) ?_
 rotate_left
 · intro w hSw
   (try dsimp only at hSw)
   go_simp
   try with_reducible rfl
 try simp only [List.getElem_toArray, List.getElem_cons_succ, List.getElem_cons_zero, Act.put, List.setIfInBounds_toArray, List.set_cons_zero, List.set_cons_succ]
 refine wpAnyH_take (i := 2) (v := ?_) rfl (by kernel_rfl) (by kernel_rfl) (by kernel_rfl) (fun _ _ _ h => h) (Or.inl ⟨by rfl, ?_⟩) (by assumption) ?_
 rotate_left
 · intro w hSw
   (try dsimp only at hSw)
   go_simp
   try with_reducible rfl
 try simp only [List.getElem_toArray, List.getElem_cons_succ, List.getElem_cons_zero, Act.put, List.setIfInBounds_toArray, List.set_cons_zero, List.set_cons_succ]
 refine wpAnyH_take (i := 3) (v := ?_) rfl (by kernel_rfl) (by kernel_rfl) (by kernel_rfl) (fun _ _ _ h => h) (Or.inl ⟨by rfl, ?_⟩) (by assumption) ?_
 rotate_left
 · intro w hSw
   (try dsimp only at hSw)
   go_simp
   try with_reducible rfl
 try simp only [List.getElem_toArray, List.getElem_cons_succ, List.getElem_cons_zero, Act.put, List.setIfInBounds_toArray, List.set_cons_zero, List.set_cons_succ]
 refine wpAnyH_take (i := 5) (v := ?_) rfl (by kernel_rfl) (by kernel_rfl) (by kernel_rfl) (fun _ _ _ h => h) (Or.inl ⟨by rfl, ?_⟩) (by assumption) ?_
 rotate_left
 · intro w hSw
   (try dsimp only at hSw)
   go_simp
   try with_reducible rfl
 try simp only [List.getElem_toArray, List.getElem_cons_succ, List.getElem_cons_zero, Act.put, List.setIfInBounds_toArray, List.set_cons_zero, List.set_cons_succ]
 refine wpAnyH_ready (rs := [4]) (by kernel_rfl) (by simp) ?_
 refine AllReadyH.cons rfl (fun K hK => ?_) AllReadyH.nil
 go_simp
 go_at_call 76
 refine (implGet_any n.data at_ sz _ hd).mono ?_
 rintro e w2 ⟨rfl, hb2⟩
 rw [hgv]
 have hn2 := (hb2.block _ (row_lt HN0.out)).trans HN0.out
 have u1 : w2.cell? ⟨w.heap.size, 1, none⟩ = some (.string n.data) := (cells6 hn2).2.1
 have j0 := (hb2.block _ (row_lt HJ0.out)).trans HJ0.out
 have v0 := cellA j0
 have j1 := (hb2.block _ (row_lt HJ1.out)).trans HJ1.out
 have v1 := cellA j1
 have j2 := (hb2.block _ (row_lt HJ2.out)).trans HJ2.out
 have v2 := cellA j2
 go_wp2_with fail
 refine hK.out _ _ ?_ (fun hH1 => ?_)
 · exact ⟨u1, v0, v1, v2⟩
 clear hK K hH0
 try simp only [List.getElem_toArray, List.getElem_cons_succ, List.getElem_cons_zero, Act.put, List.setIfInBounds_toArray, List.set_cons_zero, List.set_cons_succ]
 refine wpAnyH_take (i := 6) (v := ?_) rfl (by kernel_rfl) (by kernel_rfl) (by kernel_rfl) (fun _ _ _ h => h) (Or.inl ⟨by rfl, ?_⟩) (by assumption) ?_
 rotate_left
 · intro w hSw
   (try dsimp only at hSw)
   go_simp
   try with_reducible rfl
 try simp only [List.getElem_toArray, List.getElem_cons_succ, List.getElem_cons_zero, Act.put, List.setIfInBounds_toArray, List.set_cons_zero, List.set_cons_succ]
 refine wpAnyH_take (i := 7) (v := ?_) rfl (by kernel_rfl) (by kernel_rfl) (by kernel_rfl) (fun _ _ _ h => h) (Or.inl ⟨by rfl, ?_⟩) (by assumption) ?_
 rotate_left
 · intro w hSw
   (try dsimp only at hSw)
   go_simp
   try with_reducible rfl
 try simp only [List.getElem_toArray, List.getElem_cons_succ, List.getElem_cons_zero, Act.put, List.setIfInBounds_toArray, List.set_cons_zero, List.set_cons_succ]
 have hb3 := HDR.out.trans hb2
 have hs := HB0.out.size
 have hr := (hb2.block _ (row_lt HR1.out)).trans HR1.out
 obtain ⟨z0, z1, z2, z3, z4, z5, z6⟩ := cellsV hr
 have zf := row_free hr
 obtain ⟨wf, hwf, hrw, hbf, hkf⟩ := finV (R := w.heap.size) (.int .i64 (bits .xor .i64 gv tu)) (.int .i64 0) (.string ⟨#[]⟩) (.slice none 0 0) (.int .i64 0) (.int .i64 0) (.slice none 0 0) hr (HB0.out.trans (hb3.mono hs)) (by omega)
 have HWF := Lib.hid hwf
 have HRW := Lib.hid hrw
 have HBF := Lib.hid hbf
 have x1 : wf.cell? ⟨w.heap.size, 1, none⟩ = some (.string n.data) := (cells6 ((hkf _ (by omega)).trans hn2)).2.1
 have y0 := cellA ((hkf _ (by have := HLB0.out; omega)).trans j0)
 have y1 := cellA ((hkf _ (by have := HLB1.out; omega)).trans j1)
 have y2 := cellA ((hkf _ (by have := HLB2.out; omega)).trans j2)
 clear hwf hrw hbf hb3 hb2 hr
 refine wpAnyH_ready (rs := [8]) (by kernel_rfl) (by simp) ?_
 refine AllReadyH.cons rfl (fun K hK => ?_) AllReadyH.nil
 go_simp
 rw [HWF.out]
 refine hK.out _ _ ?_ (fun hH3 => ?_)
 · exact ⟨x1, y0, y1, y2⟩
 clear hK K hH1 u1 hn2 v0 j0 v1 j1 v2 j2
 refine wpAnyH_take (i := 9) (v := ?_) rfl (by kernel_rfl) (by kernel_rfl) (by kernel_rfl) (fun _ _ _ h => h) (Or.inl ⟨by rfl, ?_⟩) (by assumption) ?_
 rotate_left
 · intro w hSw
   (try dsimp only at hSw)
   go_simp
   try with_reducible rfl
 try simp only [List.getElem_toArray, List.getElem_cons_succ, List.getElem_cons_zero, Act.put, List.setIfInBounds_toArray, List.set_cons_zero, List.set_cons_succ]
 refine wpAnyH_done (by kernel_rfl) ?_ _
 clear hH3
 try clear a0 a1 a2 a3 a4 a5 d1 c0 c1 c2 e0 e1 e2
 go_wp2
 obtain ⟨e0, e1, e2, e3, e4, e5, e6⟩ := cellsV HRW.out
 exact bodyPost_ret (v := .tuple #[numA (xorI gv tu), .bool true]) (by simp [results, Try.results75, go_sem, HX.out, e0, e1, e2, e3, e4, e5, e6]) rfl ⟨rfl, HBF.out⟩
theorem getNode_out (n : Nd) (h : Hd) (at_ : Int) (w : World) (h0 : 0 ≤ at_) (hl : (n.ptrs.length : Int) ≤ at_) (hm : n.ptrs.length ≤ maxLen) :
 Calls Try.prog 69 #[.agg #[.int .i64 n.kind, .string n.data, .slice h.A n.ptrs.length h.a, .int .i64 n.size, .int .i64 n.count, .slice h.B n.items.length h.b], .int .i64 at_] w fun e w' => e = .returned (numA 0) ∧ Below w.heap.size w w' := by
 have q0 := al_first w (.cells #[.int .i64 n.kind, .string n.data, .slice h.A n.ptrs.length h.a, .int .i64 n.size, .int .i64 n.count, .slice h.B n.items.length h.b] nodeT)
 have q1 := al_next q0 (.cells #[.int .i64 0, .int .i64 0, .string { data := #[] }, .slice none 0 0, .int .i64 0, .int .i64 0, .slice none 0 0] valT)
 have r0 := heap_alloc_new w (.cells #[.int .i64 n.kind, .string n.data, .slice h.A n.ptrs.length h.a, .int .i64 n.size, .int .i64 n.count, .slice h.B n.items.length h.b] nodeT)
 have r1 := al_row q0 #[.int .i64 0, .int .i64 0, .string { data := #[] }, .slice none 0 0, .int .i64 0, .int .i64 0, .slice none 0 0] valT
 obtain ⟨a0, a1, a2, a3, a4, a5⟩ := cells6 r0
 obtain ⟨z0, z1, z2, z3, z4, z5, z6⟩ := cellsV r1
 have zf := row_free r1
 have HB0 := Lib.hid q1.2
 have HR1 := Lib.hid r1
 clear q1 q0 r0 r1
 go_enter Try.func69, Try.ntmps69
 go_wp2_with fail
 obtain ⟨y0, y1, y2, y3, y4, y5, y6⟩ := cellsV HR1.out
 exact bodyPost_ret (v := numA 0) (by simp [results, Try.results69, go_sem, y0, y1, y2, y3, y4, y5, y6]) rfl ⟨rfl, HB0.out⟩
theorem getNode_in (n : Nd) (x : Addr) (ca : Nat) (B : Option Addr) (cb : Nat) (k : Nat) (y : Nd) (hy : Hd) (w : World) (hk : k < n.ptrs.length) (hm : n.ptrs.length ≤ maxLen) (hc : NdCell w (x.add (k * 6)) y hy) :
 Calls Try.prog 69 #[.agg #[.int .i64 n.kind, .string n.data, .slice (some x) n.ptrs.length ca, .int .i64 n.size, .int .i64 n.count, .slice B n.items.length cb], .int .i64 (k : Int)] w fun e w' => e = .returned (valV 0 y hy) ∧ Below w.heap.size w w' := by
 have q0 := al_first w (.cells #[.int .i64 n.kind, .string n.data, .slice (some x) n.ptrs.length ca, .int .i64 n.size, .int .i64 n.count, .slice B n.items.length cb] nodeT)
 have q1 := al_next q0 (.cells #[.int .i64 0, .int .i64 0, .string { data := #[] }, .slice none 0 0, .int .i64 0, .int .i64 0, .slice none 0 0] valT)
 have r0 := heap_alloc_keep (heap_alloc_new w (.cells #[.int .i64 n.kind, .string n.data, .slice (some x) n.ptrs.length ca, .int .i64 n.size, .int .i64 n.count, .slice B n.items.length cb] nodeT)) (.cells #[.int .i64 0, .int .i64 0, .string { data := #[] }, .slice none 0 0, .int .i64 0, .int .i64 0, .slice none 0 0] valT)
 have r1 := al_row q0 #[.int .i64 0, .int .i64 0, .string { data := #[] }, .slice none 0 0, .int .i64 0, .int .i64 0, .slice none 0 0] valT
 obtain ⟨a0, a1, a2, a3, a4, a5⟩ := cells6 r0
 obtain ⟨z0, z1, z2, z3, z4, z5, z6⟩ := cellsV r1
 have zf := row_free r1
 obtain ⟨d0, d1, d2, d3, d4, d5⟩ := hc.block (q1.2.block _ hc.lt)
 have HB0 := Lib.hid q1.2
 have HR1 := Lib.hid r1
 have hge : ¬ ((n.ptrs.length : Int) ≤ k) := by omega
 clear q1 q0 r0 r1 hc
 go_enter Try.func69, Try.ntmps69
 go_wp2_with fail
 have r2 := al_row (al_first w (.cells #[.int .i64 n.kind, .string n.data, .slice (some x) n.ptrs.length ca, .int .i64 n.size, .int .i64 n.count, .slice B n.items.length cb] nodeT)) #[.int .i64 0, .int .i64 y.kind, .string y.data, .slice hy.A y.ptrs.length hy.a, .int .i64 y.size, .int .i64 y.count, .slice hy.B y.items.length hy.b] valT
 obtain ⟨y0, y1, y2, y3, y4, y5, y6⟩ := cellsV r2
 exact bodyPost_ret (v := valV 0 y hy) (by simp [results, Try.results69, go_sem, y0, y1, y2, y3, y4, y5, y6]) rfl ⟨rfl, (al_next (al_first w (.cells #[.int .i64 n.kind, .string n.data, .slice (some x) n.ptrs.length ca, .int .i64 n.size, .int .i64 n.count, .slice B n.items.length cb] nodeT)) _).2⟩
theorem told1_no (n : Nd) (h : Hd) (tg pl : Int) (b : Nat) (w : World) (hd : n.data.size ≤ maxLen) (hg : getI (byL n) tg 2 ≠ pl) (k1 : w.heap[b + 1]? = some (.cells #[.int .i64 tg] 3 (0, 0))) (k2 : w.heap[b + 2]? = some (.cells #[.int .i64 pl] 3 (0, 0))) :
 Calls Try.prog 79 #[.agg #[.int .i64 n.kind, .string n.data, .slice h.A n.ptrs.length h.a, .int .i64 n.size, .int .i64 n.count, .slice h.B n.items.length h.b], .pointer (some ⟨b + 1, 0, none⟩), .pointer (some ⟨b + 2, 0, none⟩), .pointer (some ⟨b, 0, none⟩)] w (GetQ (numA 0) false w) := by
 have q0 := al_first w (.cells #[.int .i64 n.kind, .string n.data, .slice h.A n.ptrs.length h.a, .int .i64 n.size, .int .i64 n.count, .slice h.B n.items.length h.b] nodeT)
 have q1 := al_next q0 (.cells #[.int .i64 0, .int .i64 0, .string { data := #[] }, .slice none 0 0, .int .i64 0, .int .i64 0, .slice none 0 0] valT)
 have r0 := heap_alloc_keep (heap_alloc_new w (.cells #[.int .i64 n.kind, .string n.data, .slice h.A n.ptrs.length h.a, .int .i64 n.size, .int .i64 n.count, .slice h.B n.items.length h.b] nodeT)) (.cells #[.int .i64 0, .int .i64 0, .string { data := #[] }, .slice none 0 0, .int .i64 0, .int .i64 0, .slice none 0 0] valT)
 have r1 := al_row q0 #[.int .i64 0, .int .i64 0, .string { data := #[] }, .slice none 0 0, .int .i64 0, .int .i64 0, .slice none 0 0] valT
 have j1 := (q1.2.block _ (row_lt k1)).trans k1
 have j2 := (q1.2.block _ (row_lt k2)).trans k2
 have c1 := cellA j1
 have c2 := cellA j2
 have HJ1 := Lib.hid j1
 have HJ2 := Lib.hid j2
 have HR0 := Lib.hid r0
 have HR1 := Lib.hid r1
 have HB0 := Lib.hid q1.2
 obtain ⟨a0, a1, a2, a3, a4, a5⟩ := cells6 r0
 obtain ⟨gv, hgv⟩ : ∃ gv, getI (byL n) tg 2 = gv := ⟨_, rfl⟩
 rw [hgv] at hg
 have hne : (gv != pl) = true := by simpa using hg
 clear q1 q0 r0 r1 j1 j2 k1 k2
 go_enter Try.func79, Try.ntmps79
 go_wp2_with fail
 generalize (w.alloc (.cells #[.int .i64 n.kind, .string n.data, .slice h.A n.ptrs.length h.a, .int .i64 n.size, .int .i64 n.count, .slice h.B n.items.length h.b] nodeT)).alloc (.cells #[.int .i64 0, .int .i64 0, .string { data := #[] }, .slice none 0 0, .int .i64 0, .int .i64 0, .slice none 0 0] valT) = W at *
 have HDR : Hid (Below W.heap.size W W.drew) := Lib.hid ⟨rfl, rfl, rfl, Nat.le_refl _, fun _ _ => rfl⟩
 have d1 : W.drew.cell? ⟨w.heap.size, 1, none⟩ = some (.string n.data) := a1
 have e1 : W.drew.cell? ⟨b + 1, 0, none⟩ = some (.int .i64 tg) := c1
 have e2 : W.drew.cell? ⟨b + 2, 0, none⟩ = some (.int .i64 pl) := c2
 refine wp_region_held_drew (S := (fun V => V.cell? ⟨w.heap.size, 1, none⟩ = some (.string n.data) ∧ V.cell? ⟨b + 1, 0, none⟩ = some (.int .i64 tg) ∧ V.cell? ⟨b + 2, 0, none⟩ = some (.int .i64 pl))) (by kernel_rfl) ?_ (fun hH0 => ?_)
 · exact ⟨d1, e1, e2⟩
 refine wpAnyH_take (i := 0) (v := ?_) rfl (by kernel_rfl) (by kernel_rfl) (by kernel_rfl) (fun _ _ _ h => h) (Or.inl ⟨by rfl, ?_⟩) (by assumption) ?_
 rotate_left
 · intro w hSw
   (try dsimp only at hSw)
   go_simp
   try with_reducible rfl
 try simp only [List.getElem_toArray, List.getElem_cons_succ, List.getElem_cons_zero, Act.put, List.setIfInBounds_toArray, List.set_cons_zero, List.set_cons_succ]
 refine wpAnyH_take (i := 1) (v := ?_) rfl (by kernel_rfl) (by kernel_rfl) (by kernel_rfl) (fun _ _ _ h => h) (Or.inl ⟨by rfl, ?_⟩) (by assumption) ?_
 rotate_left
 · intro w hSw
   (try dsimp only at hSw)
   go_simp
   try with_reducible rfl
 try simp only [List.getElem_toArray, List.getElem_cons_succ, List.getElem_cons_zero, Act.put, List.setIfInBounds_toArray, List.set_cons_zero, List.set_cons_succ]
 refine wpAnyH_take (i := 2) (v := ?_) rfl (by kernel_rfl) (by kernel_rfl) (by kernel_rfl) (fun _ _ _ h => h) (Or.inl ⟨by rfl, ?_⟩) (by assumption) ?_
 rotate_left
 · intro w hSw
   (try dsimp only at hSw)
   go_simp
   try with_reducible rfl
 try simp only [List.getElem_toArray, List.getElem_cons_succ, List.getElem_cons_zero, Act.put, List.setIfInBounds_toArray, List.set_cons_zero, List.set_cons_succ]
 refine wpAnyH_take (i := 4) (v := ?_) rfl (by kernel_rfl) (by kernel_rfl) (by kernel_rfl) (fun _ _ _ h => h) (Or.inl ⟨by rfl, ?_⟩) (by assumption) ?_
 rotate_left
 · intro w hSw
   (try dsimp only at hSw)
   go_simp
   try with_reducible rfl
 try simp only [List.getElem_toArray, List.getElem_cons_succ, List.getElem_cons_zero, Act.put, List.setIfInBounds_toArray, List.set_cons_zero, List.set_cons_succ]
 refine wpAnyH_ready (rs := [3]) (by kernel_rfl) (by simp) ?_
 refine AllReadyH.cons rfl (fun K hK => ?_) AllReadyH.nil
 go_simp
 go_at_call 76
 refine (implGet_any n.data tg 2 _ hd).mono ?_
 rintro e w2 ⟨rfl, hb2⟩
 rw [hgv]
 have hn2 := (hb2.block _ (row_lt HR0.out)).trans HR0.out
 have u1 : w2.cell? ⟨w.heap.size, 1, none⟩ = some (.string n.data) := (cells6 hn2).2.1
 have v1 := cellA ((hb2.block _ (row_lt HJ1.out)).trans HJ1.out)
 have v2 := cellA ((hb2.block _ (row_lt HJ2.out)).trans HJ2.out)
 go_wp2_with fail
 refine hK.out _ _ ?_ (fun hH1 => ?_)
 · exact ⟨u1, v1, v2⟩
 clear hK K hH0
 try simp only [List.getElem_toArray, List.getElem_cons_succ, List.getElem_cons_zero, Act.put, List.setIfInBounds_toArray, List.set_cons_zero, List.set_cons_succ]
 refine wpAnyH_take (i := 5) (v := ?_) rfl (by kernel_rfl) (by kernel_rfl) (by kernel_rfl) (fun _ _ _ h => h) (Or.inl ⟨by rfl, ?_⟩) (by assumption) ?_
 rotate_left
 · intro w hSw
   (try dsimp only at hSw)
   go_simp
   try with_reducible rfl
 try simp only [List.getElem_toArray, List.getElem_cons_succ, List.getElem_cons_zero, Act.put, List.setIfInBounds_toArray, List.set_cons_zero, List.set_cons_succ]
 refine wpAnyH_done (by kernel_rfl) ?_ _
 clear hH1
 have HB2 := Lib.hid (HB0.out.trans ((HDR.out.trans hb2).mono HB0.out.size))
 have hr := ((HDR.out.trans hb2).block _ (row_lt HR1.out)).trans HR1.out
 have HR := Lib.hid hr
 obtain ⟨z0, z1, z2, z3, z4, z5, z6⟩ := cellsV hr
 have zf := row_free hr
 clear hb2 hr a0 a1 a2 a3 a4 a5 hg
 go_wp2_with fail
 obtain ⟨wf, hwf, hrw, hbf, -⟩ := finV (R := w.heap.size) (.int .i64 0) (.int .i64 0) (.string ⟨#[]⟩) (.slice none 0 0) (.int .i64 0) (.int .i64 0) (.slice none 0 0) HR.out HB2.out (by omega)
 rw [hwf]
 obtain ⟨e0, e1, e2, e3, e4, e5, e6⟩ := cellsV hrw
 exact bodyPost_ret (v := .tuple #[numA 0, .bool false]) (by simp [results, Try.results79, go_sem, e0, e1, e2, e3, e4, e5, e6]) rfl ⟨rfl, hbf⟩
theorem told1_bit (n : Nd) (h : Hd) (tg pl : Int) (b : Nat) (w : World) (hd : n.data.size ≤ maxLen) (c : Nat) (g : Value) (x : Int) (y : Nd) (hy : Hd) (hg : getI (byL n) tg 2 = pl) (k0 : w.heap[b]? = some (.cells #[.func (.func 71) #[] #[.pointer (some ⟨c, 0, none⟩), .pointer (some ⟨c + 1, 0, none⟩)], g] acrT (0, 0)))
 (HF : ∀ V : World, Below w.heap.size w V → Calls Try.prog 71 #[.agg #[.int .i64 n.kind, .string n.data, .slice h.A n.ptrs.length h.a, .int .i64 n.size, .int .i64 n.count, .slice h.B n.items.length h.b], .pointer (some ⟨c, 0, none⟩), .pointer (some ⟨c + 1, 0, none⟩)] V (GetQ (valV x y hy) true V)) (k1 : w.heap[b + 1]? = some (.cells #[.int .i64 tg] 3 (0, 0))) (k2 : w.heap[b + 2]? = some (.cells #[.int .i64 pl] 3 (0, 0))) :
 Calls Try.prog 79 #[.agg #[.int .i64 n.kind, .string n.data, .slice h.A n.ptrs.length h.a, .int .i64 n.size, .int .i64 n.count, .slice h.B n.items.length h.b], .pointer (some ⟨b + 1, 0, none⟩), .pointer (some ⟨b + 2, 0, none⟩), .pointer (some ⟨b, 0, none⟩)] w (GetQ (valV x y hy) true w) := by
 have q0 := al_first w (.cells #[.int .i64 n.kind, .string n.data, .slice h.A n.ptrs.length h.a, .int .i64 n.size, .int .i64 n.count, .slice h.B n.items.length h.b] nodeT)
 have q1 := al_next q0 (.cells #[.int .i64 0, .int .i64 0, .string { data := #[] }, .slice none 0 0, .int .i64 0, .int .i64 0, .slice none 0 0] valT)
 have r0 := heap_alloc_keep (heap_alloc_new w (.cells #[.int .i64 n.kind, .string n.data, .slice h.A n.ptrs.length h.a, .int .i64 n.size, .int .i64 n.count, .slice h.B n.items.length h.b] nodeT)) (.cells #[.int .i64 0, .int .i64 0, .string { data := #[] }, .slice none 0 0, .int .i64 0, .int .i64 0, .slice none 0 0] valT)
 have r1 := al_row q0 #[.int .i64 0, .int .i64 0, .string { data := #[] }, .slice none 0 0, .int .i64 0, .int .i64 0, .slice none 0 0] valT
 have j1 := (q1.2.block _ (row_lt k1)).trans k1
 have j2 := (q1.2.block _ (row_lt k2)).trans k2
 have c1 := cellA j1
 have c2 := cellA j2
 have HJ1 := Lib.hid j1
 have HJ2 := Lib.hid j2
 have HR0 := Lib.hid r0
 have HR1 := Lib.hid r1
 have HB0 := Lib.hid q1.2
 obtain ⟨a0, a1, a2, a3, a4, a5⟩ := cells6 r0
 obtain ⟨gv, hgv⟩ : ∃ gv, getI (byL n) tg 2 = gv := ⟨_, rfl⟩
 rw [hgv] at hg
 have hne : (gv != pl) = false := by simp [hg]
 have j0 := (q1.2.block _ (row_lt k0)).trans k0
 have HJ0 := Lib.hid j0
 have HFF := Lib.hid HF
 clear HF j0 k0
 clear q1 q0 r0 r1 j1 j2 k1 k2
 go_enter Try.func79, Try.ntmps79
 go_wp2_with fail
 generalize (w.alloc (.cells #[.int .i64 n.kind, .string n.data, .slice h.A n.ptrs.length h.a, .int .i64 n.size, .int .i64 n.count, .slice h.B n.items.length h.b] nodeT)).alloc (.cells #[.int .i64 0, .int .i64 0, .string { data := #[] }, .slice none 0 0, .int .i64 0, .int .i64 0, .slice none 0 0] valT) = W at *
 have HDR : Hid (Below W.heap.size W W.drew) := Lib.hid ⟨rfl, rfl, rfl, Nat.le_refl _, fun _ _ => rfl⟩
 have d1 : W.drew.cell? ⟨w.heap.size, 1, none⟩ = some (.string n.data) := a1
 have e1 : W.drew.cell? ⟨b + 1, 0, none⟩ = some (.int .i64 tg) := c1
 have e2 : W.drew.cell? ⟨b + 2, 0, none⟩ = some (.int .i64 pl) := c2
 refine wp_region_held_drew (S := (fun V => V.cell? ⟨w.heap.size, 1, none⟩ = some (.string n.data) ∧ V.cell? ⟨b + 1, 0, none⟩ = some (.int .i64 tg) ∧ V.cell? ⟨b + 2, 0, none⟩ = some (.int .i64 pl))) (by kernel_rfl) ?_ (fun hH0 => ?_)
 · exact ⟨d1, e1, e2⟩
 refine wpAnyH_take (i := 0) (v := ?_) rfl (by kernel_rfl) (by kernel_rfl) (by kernel_rfl) (fun _ _ _ h => h) (Or.inl ⟨by rfl, ?_⟩) (by assumption) ?_
 rotate_left
 · intro w hSw
   (try dsimp only at hSw)
   go_simp
   try with_reducible rfl
 try simp only [List.getElem_toArray, List.getElem_cons_succ, List.getElem_cons_zero, Act.put, List.setIfInBounds_toArray, List.set_cons_zero, List.set_cons_succ]
 refine wpAnyH_take (i := 1) (v := ?_) rfl (by kernel_rfl) (by kernel_rfl) (by kernel_rfl) (fun _ _ _ h => h) (Or.inl ⟨by rfl, ?_⟩) (by assumption) ?_
 rotate_left
 · intro w hSw
   (try dsimp only at hSw)
   go_simp
   try with_reducible rfl
 try simp only [List.getElem_toArray, List.getElem_cons_succ, List.getElem_cons_zero, Act.put, List.setIfInBounds_toArray, List.set_cons_zero, List.set_cons_succ]
 refine wpAnyH_take (i := 2) (v := ?_) rfl (by kernel_rfl) (by kernel_rfl) (by kernel_rfl) (fun _ _ _ h => h) (Or.inl ⟨by rfl, ?_⟩) (by assumption) ?_
 rotate_left
 · intro w hSw
   (try dsimp only at hSw)
   go_simp
   try with_reducible rfl
 try simp only [List.getElem_toArray, List.getElem_cons_succ, List.getElem_cons_zero, Act.put, List.setIfInBounds_toArray, List.set_cons_zero, List.set_cons_succ]
 refine wpAnyH_take (i := 4) (v := ?_) rfl (by kernel_rfl) (by kernel_rfl) (by kernel_rfl) (fun _ _ _ h => h) (Or.inl ⟨by rfl, ?_⟩) (by assumption) ?_
 rotate_left
 · intro w hSw
   (try dsimp only at hSw)
   go_simp
   try with_reducible rfl
 try simp only [List.getElem_toArray, List.getElem_cons_succ, List.getElem_cons_zero, Act.put, List.setIfInBounds_toArray, List.set_cons_zero, List.set_cons_succ]
 refine wpAnyH_ready (rs := [3]) (by kernel_rfl) (by simp) ?_
 refine AllReadyH.cons rfl (fun K hK => ?_) AllReadyH.nil
 go_simp
 go_at_call 76
 refine (implGet_any n.data tg 2 _ hd).mono ?_
 rintro e w2 ⟨rfl, hb2⟩
 rw [hgv]
 have hn2 := (hb2.block _ (row_lt HR0.out)).trans HR0.out
 have u1 : w2.cell? ⟨w.heap.size, 1, none⟩ = some (.string n.data) := (cells6 hn2).2.1
 have v1 := cellA ((hb2.block _ (row_lt HJ1.out)).trans HJ1.out)
 have v2 := cellA ((hb2.block _ (row_lt HJ2.out)).trans HJ2.out)
 go_wp2_with fail
 refine hK.out _ _ ?_ (fun hH1 => ?_)
 · exact ⟨u1, v1, v2⟩
 clear hK K hH0
 try simp only [List.getElem_toArray, List.getElem_cons_succ, List.getElem_cons_zero, Act.put, List.setIfInBounds_toArray, List.set_cons_zero, List.set_cons_succ]
 refine wpAnyH_take (i := 5) (v := ?_) rfl (by kernel_rfl) (by kernel_rfl) (by kernel_rfl) (fun _ _ _ h => h) (Or.inl ⟨by rfl, ?_⟩) (by assumption) ?_
 rotate_left
 · intro w hSw
   (try dsimp only at hSw)
   go_simp
   try with_reducible rfl
 try simp only [List.getElem_toArray, List.getElem_cons_succ, List.getElem_cons_zero, Act.put, List.setIfInBounds_toArray, List.set_cons_zero, List.set_cons_succ]
 refine wpAnyH_done (by kernel_rfl) ?_ _
 clear hH1
 have HB2 := Lib.hid (HB0.out.trans ((HDR.out.trans hb2).mono HB0.out.size))
 have hr := ((HDR.out.trans hb2).block _ (row_lt HR1.out)).trans HR1.out
 have HR := Lib.hid hr
 obtain ⟨z0, z1, z2, z3, z4, z5, z6⟩ := cellsV hr
 have zf := row_free hr
 obtain ⟨f0, f1⟩ := cellsA (((HDR.out.trans hb2).block _ (row_lt HJ0.out)).trans HJ0.out)
 obtain ⟨n0, n1, n2, n3, n4, n5⟩ := cells6 hn2
 have HC := Lib.hid (HFF.out w2 HB2.out)
 unfold GetQ at HC
 clear hb2 hr a0 a1 a2 a3 a4 a5 hg u1 hn2
 go_wp2_with fail
 clear n0 n1 n2 n3 n4 n5 f0 f1 z0 z1 z2 z3 z4 z5 z6 zf
 refine HC.out.mono ?_
 rintro e w3 ⟨rfl, hb3⟩
 have HB3 := Lib.hid (HB2.out.trans (hb3.mono HB2.out.size))
 have hr3 := (hb3.block _ (row_lt HR.out)).trans HR.out
 have HR3 := Lib.hid hr3
 obtain ⟨z0, z1, z2, z3, z4, z5, z6⟩ := cellsV hr3
 have zf := row_free hr3
 clear hb3 hr3
 go_wp2_with fail
 obtain ⟨wf, hwf, hrw, hbf, -⟩ := finV (R := w.heap.size) (.int .i64 x) (.int .i64 y.kind) (.string y.data) (.slice hy.A y.ptrs.length hy.a) (.int .i64 y.size) (.int .i64 y.count) (.slice hy.B y.items.length hy.b) HR3.out HB3.out (by omega)
 rw [hwf]
 obtain ⟨e0, e1, e2, e3, e4, e5, e6⟩ := cellsV hrw
 exact bodyPost_ret (v := .tuple #[valV x y hy, .bool true]) (by simp [results, Try.results79, go_sem, e0, e1, e2, e3, e4, e5, e6]) rfl ⟨rfl, hbf⟩
theorem told1_num (n : Nd) (h : Hd) (tg pl : Int) (b : Nat) (w : World) (hd : n.data.size ≤ maxLen) (c : Nat) (g : Value) (x : Int) (y : Nd) (hy : Hd) (hg : getI (byL n) tg 2 = pl) (k0 : w.heap[b]? = some (.cells #[.func (.func 75) #[] #[.pointer (some ⟨c, 0, none⟩), .pointer (some ⟨c + 1, 0, none⟩), .pointer (some ⟨c + 2, 0, none⟩)], g] acrT (0, 0)))
 (HF : ∀ V : World, Below w.heap.size w V → Calls Try.prog 75 #[.agg #[.int .i64 n.kind, .string n.data, .slice h.A n.ptrs.length h.a, .int .i64 n.size, .int .i64 n.count, .slice h.B n.items.length h.b], .pointer (some ⟨c, 0, none⟩), .pointer (some ⟨c + 1, 0, none⟩), .pointer (some ⟨c + 2, 0, none⟩)] V (GetQ (valV x y hy) true V)) (k1 : w.heap[b + 1]? = some (.cells #[.int .i64 tg] 3 (0, 0))) (k2 : w.heap[b + 2]? = some (.cells #[.int .i64 pl] 3 (0, 0))) :
 Calls Try.prog 79 #[.agg #[.int .i64 n.kind, .string n.data, .slice h.A n.ptrs.length h.a, .int .i64 n.size, .int .i64 n.count, .slice h.B n.items.length h.b], .pointer (some ⟨b + 1, 0, none⟩), .pointer (some ⟨b + 2, 0, none⟩), .pointer (some ⟨b, 0, none⟩)] w (GetQ (valV x y hy) true w) := by
 have q0 := al_first w (.cells #[.int .i64 n.kind, .string n.data, .slice h.A n.ptrs.length h.a, .int .i64 n.size, .int .i64 n.count, .slice h.B n.items.length h.b] nodeT)
 have q1 := al_next q0 (.cells #[.int .i64 0, .int .i64 0, .string { data := #[] }, .slice none 0 0, .int .i64 0, .int .i64 0, .slice none 0 0] valT)
 have r0 := heap_alloc_keep (heap_alloc_new w (.cells #[.int .i64 n.kind, .string n.data, .slice h.A n.ptrs.length h.a, .int .i64 n.size, .int .i64 n.count, .slice h.B n.items.length h.b] nodeT)) (.cells #[.int .i64 0, .int .i64 0, .string { data := #[] }, .slice none 0 0, .int .i64 0, .int .i64 0, .slice none 0 0] valT)
 have r1 := al_row q0 #[.int .i64 0, .int .i64 0, .string { data := #[] }, .slice none 0 0, .int .i64 0, .int .i64 0, .slice none 0 0] valT
 have j1 := (q1.2.block _ (row_lt k1)).trans k1
 have j2 := (q1.2.block _ (row_lt k2)).trans k2
 have c1 := cellA j1
 have c2 := cellA j2
 have HJ1 := Lib.hid j1
 have HJ2 := Lib.hid j2
 have HR0 := Lib.hid r0
 have HR1 := Lib.hid r1
 have HB0 := Lib.hid q1.2
 obtain ⟨a0, a1, a2, a3, a4, a5⟩ := cells6 r0
 obtain ⟨gv, hgv⟩ : ∃ gv, getI (byL n) tg 2 = gv := ⟨_, rfl⟩
 rw [hgv] at hg
 have hne : (gv != pl) = false := by simp [hg]
 have j0 := (q1.2.block _ (row_lt k0)).trans k0
 have HJ0 := Lib.hid j0
 have HFF := Lib.hid HF
 clear HF j0 k0
 clear q1 q0 r0 r1 j1 j2 k1 k2
 go_enter Try.func79, Try.ntmps79
 go_wp2_with fail
 generalize (w.alloc (.cells #[.int .i64 n.kind, .string n.data, .slice h.A n.ptrs.length h.a, .int .i64 n.size, .int .i64 n.count, .slice h.B n.items.length h.b] nodeT)).alloc (.cells #[.int .i64 0, .int .i64 0, .string { data := #[] }, .slice none 0 0, .int .i64 0, .int .i64 0, .slice none 0 0] valT) = W at *
 have HDR : Hid (Below W.heap.size W W.drew) := Lib.hid ⟨rfl, rfl, rfl, Nat.le_refl _, fun _ _ => rfl⟩
 have d1 : W.drew.cell? ⟨w.heap.size, 1, none⟩ = some (.string n.data) := a1
 have e1 : W.drew.cell? ⟨b + 1, 0, none⟩ = some (.int .i64 tg) := c1
 have e2 : W.drew.cell? ⟨b + 2, 0, none⟩ = some (.int .i64 pl) := c2
 refine wp_region_held_drew (S := (fun V => V.cell? ⟨w.heap.size, 1, none⟩ = some (.string n.data) ∧ V.cell? ⟨b + 1, 0, none⟩ = some (.int .i64 tg) ∧ V.cell? ⟨b + 2, 0, none⟩ = some (.int .i64 pl))) (by kernel_rfl) ?_ (fun hH0 => ?_)
 · exact ⟨d1, e1, e2⟩
 refine wpAnyH_take (i := 0) (v := ?_) rfl (by kernel_rfl) (by kernel_rfl) (by kernel_rfl) (fun _ _ _ h => h) (Or.inl ⟨by rfl, ?_⟩) (by assumption) ?_
 rotate_left
 · intro w hSw
   (try dsimp only at hSw)
   go_simp
   try with_reducible rfl
 try simp only [List.getElem_toArray, List.getElem_cons_succ, List.getElem_cons_zero, Act.put, List.setIfInBounds_toArray, List.set_cons_zero, List.set_cons_succ]
 refine wpAnyH_take (i := 1) (v := ?_) rfl (by kernel_rfl) (by kernel_rfl) (by kernel_rfl) (fun _ _ _ h => h) (Or.inl ⟨by rfl, ?_⟩) (by assumption) ?_
 rotate_left
 · intro w hSw
   (try dsimp only at hSw)
   go_simp
   try with_reducible rfl
 try simp only [List.getElem_toArray, List.getElem_cons_succ, List.getElem_cons_zero, Act.put, List.setIfInBounds_toArray, List.set_cons_zero, List.set_cons_succ]
 refine wpAnyH_take (i := 2) (v := ?_) rfl (by kernel_rfl) (by kernel_rfl) (by kernel_rfl) (fun _ _ _ h => h) (Or.inl ⟨by rfl, ?_⟩) (by assumption) ?_
 rotate_left
 · intro w hSw
   (try dsimp only at hSw)
   go_simp
   try with_reducible rfl
 try simp only [List.getElem_toArray, List.getElem_cons_succ, List.getElem_cons_zero, Act.put, List.setIfInBounds_toArray, List.set_cons_zero, List.set_cons_succ]
 refine wpAnyH_take (i := 4) (v := ?_) rfl (by kernel_rfl) (by kernel_rfl) (by kernel_rfl) (fun _ _ _ h => h) (Or.inl ⟨by rfl, ?_⟩) (by assumption) ?_
 rotate_left
 · intro w hSw
   (try dsimp only at hSw)
   go_simp
   try with_reducible rfl
 try simp only [List.getElem_toArray, List.getElem_cons_succ, List.getElem_cons_zero, Act.put, List.setIfInBounds_toArray, List.set_cons_zero, List.set_cons_succ]
 refine wpAnyH_ready (rs := [3]) (by kernel_rfl) (by simp) ?_
 refine AllReadyH.cons rfl (fun K hK => ?_) AllReadyH.nil
 go_simp
 go_at_call 76
 refine (implGet_any n.data tg 2 _ hd).mono ?_
 rintro e w2 ⟨rfl, hb2⟩
 rw [hgv]
 have hn2 := (hb2.block _ (row_lt HR0.out)).trans HR0.out
 have u1 : w2.cell? ⟨w.heap.size, 1, none⟩ = some (.string n.data) := (cells6 hn2).2.1
 have v1 := cellA ((hb2.block _ (row_lt HJ1.out)).trans HJ1.out)
 have v2 := cellA ((hb2.block _ (row_lt HJ2.out)).trans HJ2.out)
 go_wp2_with fail
 refine hK.out _ _ ?_ (fun hH1 => ?_)
 · exact ⟨u1, v1, v2⟩
 clear hK K hH0
 try simp only [List.getElem_toArray, List.getElem_cons_succ, List.getElem_cons_zero, Act.put, List.setIfInBounds_toArray, List.set_cons_zero, List.set_cons_succ]
 refine wpAnyH_take (i := 5) (v := ?_) rfl (by kernel_rfl) (by kernel_rfl) (by kernel_rfl) (fun _ _ _ h => h) (Or.inl ⟨by rfl, ?_⟩) (by assumption) ?_
 rotate_left
 · intro w hSw
   (try dsimp only at hSw)
   go_simp
   try with_reducible rfl
 try simp only [List.getElem_toArray, List.getElem_cons_succ, List.getElem_cons_zero, Act.put, List.setIfInBounds_toArray, List.set_cons_zero, List.set_cons_succ]
 refine wpAnyH_done (by kernel_rfl) ?_ _
 clear hH1
 have HB2 := Lib.hid (HB0.out.trans ((HDR.out.trans hb2).mono HB0.out.size))
 have hr := ((HDR.out.trans hb2).block _ (row_lt HR1.out)).trans HR1.out
 have HR := Lib.hid hr
 obtain ⟨z0, z1, z2, z3, z4, z5, z6⟩ := cellsV hr
 have zf := row_free hr
 obtain ⟨f0, f1⟩ := cellsA (((HDR.out.trans hb2).block _ (row_lt HJ0.out)).trans HJ0.out)
 obtain ⟨n0, n1, n2, n3, n4, n5⟩ := cells6 hn2
 have HC := Lib.hid (HFF.out w2 HB2.out)
 unfold GetQ at HC
 clear hb2 hr a0 a1 a2 a3 a4 a5 hg u1 hn2
 go_wp2_with fail
 clear n0 n1 n2 n3 n4 n5 f0 f1 z0 z1 z2 z3 z4 z5 z6 zf
 refine HC.out.mono ?_
 rintro e w3 ⟨rfl, hb3⟩
 have HB3 := Lib.hid (HB2.out.trans (hb3.mono HB2.out.size))
 have hr3 := (hb3.block _ (row_lt HR.out)).trans HR.out
 have HR3 := Lib.hid hr3
 obtain ⟨z0, z1, z2, z3, z4, z5, z6⟩ := cellsV hr3
 have zf := row_free hr3
 clear hb3 hr3
 go_wp2_with fail
 obtain ⟨wf, hwf, hrw, hbf, -⟩ := finV (R := w.heap.size) (.int .i64 x) (.int .i64 y.kind) (.string y.data) (.slice hy.A y.ptrs.length hy.a) (.int .i64 y.size) (.int .i64 y.count) (.slice hy.B y.items.length hy.b) HR3.out HB3.out (by omega)
 rw [hwf]
 obtain ⟨e0, e1, e2, e3, e4, e5, e6⟩ := cellsV hrw
 exact bodyPost_ret (v := .tuple #[valV x y hy, .bool true]) (by simp [results, Try.results79, go_sem, e0, e1, e2, e3, e4, e5, e6]) rfl ⟨rfl, hbf⟩
theorem told1_point (n : Nd) (h : Hd) (tg pl : Int) (b : Nat) (w : World) (hd : n.data.size ≤ maxLen) (c : Nat) (g : Value) (x : Int) (y : Nd) (hy : Hd) (hg : getI (byL n) tg 2 = pl) (k0 : w.heap[b]? = some (.cells #[.func (.func 68) #[] #[.pointer (some ⟨c, 0, none⟩)], g] acrT (0, 0)))
 (HF : ∀ V : World, Below w.heap.size w V → Calls Try.prog 68 #[.agg #[.int .i64 n.kind, .string n.data, .slice h.A n.ptrs.length h.a, .int .i64 n.size, .int .i64 n.count, .slice h.B n.items.length h.b], .pointer (some ⟨c, 0, none⟩)] V (GetQ (valV x y hy) true V)) (k1 : w.heap[b + 1]? = some (.cells #[.int .i64 tg] 3 (0, 0))) (k2 : w.heap[b + 2]? = some (.cells #[.int .i64 pl] 3 (0, 0))) :
 Calls Try.prog 79 #[.agg #[.int .i64 n.kind, .string n.data, .slice h.A n.ptrs.length h.a, .int .i64 n.size, .int .i64 n.count, .slice h.B n.items.length h.b], .pointer (some ⟨b + 1, 0, none⟩), .pointer (some ⟨b + 2, 0, none⟩), .pointer (some ⟨b, 0, none⟩)] w (GetQ (valV x y hy) true w) := by
 have q0 := al_first w (.cells #[.int .i64 n.kind, .string n.data, .slice h.A n.ptrs.length h.a, .int .i64 n.size, .int .i64 n.count, .slice h.B n.items.length h.b] nodeT)
 have q1 := al_next q0 (.cells #[.int .i64 0, .int .i64 0, .string { data := #[] }, .slice none 0 0, .int .i64 0, .int .i64 0, .slice none 0 0] valT)
 have r0 := heap_alloc_keep (heap_alloc_new w (.cells #[.int .i64 n.kind, .string n.data, .slice h.A n.ptrs.length h.a, .int .i64 n.size, .int .i64 n.count, .slice h.B n.items.length h.b] nodeT)) (.cells #[.int .i64 0, .int .i64 0, .string { data := #[] }, .slice none 0 0, .int .i64 0, .int .i64 0, .slice none 0 0] valT)
 have r1 := al_row q0 #[.int .i64 0, .int .i64 0, .string { data := #[] }, .slice none 0 0, .int .i64 0, .int .i64 0, .slice none 0 0] valT
 have j1 := (q1.2.block _ (row_lt k1)).trans k1
 have j2 := (q1.2.block _ (row_lt k2)).trans k2
 have c1 := cellA j1
 have c2 := cellA j2
 have HJ1 := Lib.hid j1
 have HJ2 := Lib.hid j2
 have HR0 := Lib.hid r0
 have HR1 := Lib.hid r1
 have HB0 := Lib.hid q1.2
 obtain ⟨a0, a1, a2, a3, a4, a5⟩ := cells6 r0
 obtain ⟨gv, hgv⟩ : ∃ gv, getI (byL n) tg 2 = gv := ⟨_, rfl⟩
 rw [hgv] at hg
 have hne : (gv != pl) = false := by simp [hg]
 have j0 := (q1.2.block _ (row_lt k0)).trans k0
 have HJ0 := Lib.hid j0
 have HFF := Lib.hid HF
 clear HF j0 k0
 clear q1 q0 r0 r1 j1 j2 k1 k2
 go_enter Try.func79, Try.ntmps79
 go_wp2_with fail
 generalize (w.alloc (.cells #[.int .i64 n.kind, .string n.data, .slice h.A n.ptrs.length h.a, .int .i64 n.size, .int .i64 n.count, .slice h.B n.items.length h.b] nodeT)).alloc (.cells #[.int .i64 0, .int .i64 0, .string { data := #[] }, .slice none 0 0, .int .i64 0, .int .i64 0, .slice none 0 0] valT) = W at *
 have HDR : Hid (Below W.heap.size W W.drew) := Lib.hid ⟨rfl, rfl, rfl, Nat.le_refl _, fun _ _ => rfl⟩
 have d1 : W.drew.cell? ⟨w.heap.size, 1, none⟩ = some (.string n.data) := a1
 have e1 : W.drew.cell? ⟨b + 1, 0, none⟩ = some (.int .i64 tg) := c1
 have e2 : W.drew.cell? ⟨b + 2, 0, none⟩ = some (.int .i64 pl) := c2
 refine wp_region_held_drew (S := (fun V => V.cell? ⟨w.heap.size, 1, none⟩ = some (.string n.data) ∧ V.cell? ⟨b + 1, 0, none⟩ = some (.int .i64 tg) ∧ V.cell? ⟨b + 2, 0, none⟩ = some (.int .i64 pl))) (by kernel_rfl) ?_ (fun hH0 => ?_)
 · exact ⟨d1, e1, e2⟩
 refine wpAnyH_take (i := 0) (v := ?_) rfl (by kernel_rfl) (by kernel_rfl) (by kernel_rfl) (fun _ _ _ h => h) (Or.inl ⟨by rfl, ?_⟩) (by assumption) ?_
 rotate_left
 · intro w hSw
   (try dsimp only at hSw)
   go_simp
   try with_reducible rfl
 try simp only [List.getElem_toArray, List.getElem_cons_succ, List.getElem_cons_zero, Act.put, List.setIfInBounds_toArray, List.set_cons_zero, List.set_cons_succ]
 refine wpAnyH_take (i := 1) (v := ?_) rfl (by kernel_rfl) (by kernel_rfl) (by kernel_rfl) (fun _ _ _ h => h) (Or.inl ⟨by rfl, ?_⟩) (by assumption) ?_
 rotate_left
 · intro w hSw
   (try dsimp only at hSw)
   go_simp
   try with_reducible rfl
 try simp only [List.getElem_toArray, List.getElem_cons_succ, List.getElem_cons_zero, Act.put, List.setIfInBounds_toArray, List.set_cons_zero, List.set_cons_succ]
 refine wpAnyH_take (i := 2) (v := ?_) rfl (by kernel_rfl) (by kernel_rfl) (by kernel_rfl) (fun _ _ _ h => h) (Or.inl ⟨by rfl, ?_⟩) (by assumption) ?_
 rotate_left
 · intro w hSw
   (try dsimp only at hSw)
   go_simp
   try with_reducible rfl
 try simp only [List.getElem_toArray, List.getElem_cons_succ, List.getElem_cons_zero, Act.put, List.setIfInBounds_toArray, List.set_cons_zero, List.set_cons_succ]
 refine wpAnyH_take (i := 4) (v := ?_) rfl (by kernel_rfl) (by kernel_rfl) (by kernel_rfl) (fun _ _ _ h => h) (Or.inl ⟨by rfl, ?_⟩) (by assumption) ?_
 rotate_left
 · intro w hSw
   (try dsimp only at hSw)
   go_simp
   try with_reducible rfl
 try simp only [List.getElem_toArray, List.getElem_cons_succ, List.getElem_cons_zero, Act.put, List.setIfInBounds_toArray, List.set_cons_zero, List.set_cons_succ]
 refine wpAnyH_ready (rs := [3]) (by kernel_rfl) (by simp) ?_
 refine AllReadyH.cons rfl (fun K hK => ?_) AllReadyH.nil
 go_simp
 go_at_call 76
 refine (implGet_any n.data tg 2 _ hd).mono ?_
 rintro e w2 ⟨rfl, hb2⟩
 rw [hgv]
 have hn2 := (hb2.block _ (row_lt HR0.out)).trans HR0.out
 have u1 : w2.cell? ⟨w.heap.size, 1, none⟩ = some (.string n.data) := (cells6 hn2).2.1
 have v1 := cellA ((hb2.block _ (row_lt HJ1.out)).trans HJ1.out)
 have v2 := cellA ((hb2.block _ (row_lt HJ2.out)).trans HJ2.out)
 go_wp2_with fail
 refine hK.out _ _ ?_ (fun hH1 => ?_)
 · exact ⟨u1, v1, v2⟩
 clear hK K hH0
 try simp only [List.getElem_toArray, List.getElem_cons_succ, List.getElem_cons_zero, Act.put, List.setIfInBounds_toArray, List.set_cons_zero, List.set_cons_succ]
 refine wpAnyH_take (i := 5) (v := ?_) rfl (by kernel_rfl) (by kernel_rfl) (by kernel_rfl) (fun _ _ _ h => h) (Or.inl ⟨by rfl, ?_⟩) (by assumption) ?_
 rotate_left
 · intro w hSw
   (try dsimp only at hSw)
   go_simp
   try with_reducible rfl
 try simp only [List.getElem_toArray, List.getElem_cons_succ, List.getElem_cons_zero, Act.put, List.setIfInBounds_toArray, List.set_cons_zero, List.set_cons_succ]
 refine wpAnyH_done (by kernel_rfl) ?_ _
 clear hH1
 have HB2 := Lib.hid (HB0.out.trans ((HDR.out.trans hb2).mono HB0.out.size))
 have hr := ((HDR.out.trans hb2).block _ (row_lt HR1.out)).trans HR1.out
 have HR := Lib.hid hr
 obtain ⟨z0, z1, z2, z3, z4, z5, z6⟩ := cellsV hr
 have zf := row_free hr
 obtain ⟨f0, f1⟩ := cellsA (((HDR.out.trans hb2).block _ (row_lt HJ0.out)).trans HJ0.out)
 obtain ⟨n0, n1, n2, n3, n4, n5⟩ := cells6 hn2
 have HC := Lib.hid (HFF.out w2 HB2.out)
 unfold GetQ at HC
 clear hb2 hr a0 a1 a2 a3 a4 a5 hg u1 hn2
 go_wp2_with fail
 clear n0 n1 n2 n3 n4 n5 f0 f1 z0 z1 z2 z3 z4 z5 z6 zf
 refine HC.out.mono ?_
 rintro e w3 ⟨rfl, hb3⟩
 have HB3 := Lib.hid (HB2.out.trans (hb3.mono HB2.out.size))
 have hr3 := (hb3.block _ (row_lt HR.out)).trans HR.out
 have HR3 := Lib.hid hr3
 obtain ⟨z0, z1, z2, z3, z4, z5, z6⟩ := cellsV hr3
 have zf := row_free hr3
 clear hb3 hr3
 go_wp2_with fail
 obtain ⟨wf, hwf, hrw, hbf, -⟩ := finV (R := w.heap.size) (.int .i64 x) (.int .i64 y.kind) (.string y.data) (.slice hy.A y.ptrs.length hy.a) (.int .i64 y.size) (.int .i64 y.count) (.slice hy.B y.items.length hy.b) HR3.out HB3.out (by omega)
 rw [hwf]
 obtain ⟨e0, e1, e2, e3, e4, e5, e6⟩ := cellsV hrw
 exact bodyPost_ret (v := .tuple #[valV x y hy, .bool true]) (by simp [results, Try.results79, go_sem, e0, e1, e2, e3, e4, e5, e6]) rfl ⟨rfl, hbf⟩
end Go.Proofs.Ytfnecflkahmjoaa
