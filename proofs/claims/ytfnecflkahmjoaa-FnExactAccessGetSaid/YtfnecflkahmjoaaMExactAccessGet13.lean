/- Texts of the proof of the law FnExactAccessGet, side by side: part 13. -/
import Derived.Test.YtfnecflkahmjoaaMExactAccessGet12
set_option maxHeartbeats 8000000
set_option maxRecDepth 100000
namespace Go.Proofs.Ytfnecflkahmjoaa
open Go.RowKit Go.Deep
theorem acGet_point (nm : ByteArray) (k at_ sz tu tg pl : Int) (m j : Nat) (n : Nd) (h : Hd) (w : World) (S : Nat → Prop) (x : Int) (y : Nd) (hy : Hd) (ok : Bool) (hs : nm.size ≤ maxLen) (ht : i64b tu) (hp : i64b pl) (hn : NdAt w S m n h) (htn : totN m n ≤ 2000000) (hA : accB nm k at_ sz tu tg pl = true) (hR : isRec n = true) (hny : NdAt w S j y hy) (hyz : sizN y ≤ 2000000)
 (HAC : ∀ W : World, Below w.heap.size w W → Calls Try.prog 28 #[accV nm k at_ sz tu tg pl] W fun e w' => ∃ b g, e = .returned (.agg #[point1V b, g]) ∧ Below W.heap.size W w' ∧ ∀ V : World, Below w'.heap.size w' V → Calls Try.prog 68 #[.agg #[.int .i64 n.kind, .string n.data, .slice h.A n.ptrs.length h.a, .int .i64 n.size, .int .i64 n.count, .slice h.B n.items.length h.b], .pointer (some ⟨b, 0, none⟩)] V (GetQ (valV x y hy) ok V)) :
 Calls Try.prog 10 #[accV nm k at_ sz tu tg pl, .agg #[.int .i64 n.kind, .string n.data, .slice h.A n.ptrs.length h.a, .int .i64 n.size, .int .i64 n.count, .slice h.B n.items.length h.b]] w (NewVal (j + 1) x y ok w) := by
 have HOK := Lib.hid (fun W : World => implAccessOk_any nm k at_ sz tu tg pl W hs ht hp)
 have HRC := Lib.hid (fun (W : World) (hW : Below w.heap.size w W) => isRecord_a m n h W S (hn.below hW) htn)
 have HCP := Lib.hid (fun (W : World) (hW : Below w.heap.size w W) => ciN_any j y hy W S (hny.below hW) hyz)
 have HAO := Lib.hid HAC
 have HFL := Lib.hid fld_acr
 rw [hA] at HOK
 rw [hR] at HRC
 unfold accV at HOK HAO ⊢
 unfold GetQ at HAO
 unfold NewO at HCP
 have q0 := al_first w (.cells #[.string nm, .int .i64 k, .int .i64 at_, .int .i64 sz, .int .i64 tu, .int .i64 tg, .int .i64 pl] accT)
 have q1 := al_next q0 (.cells #[.int .i64 n.kind, .string n.data, .slice h.A n.ptrs.length h.a, .int .i64 n.size, .int .i64 n.count, .slice h.B n.items.length h.b] nodeT)
 have q2 := al_next q1 (.cells #[.int .i64 0, .int .i64 0, .string { data := #[] }, .slice none 0 0, .int .i64 0, .int .i64 0, .slice none 0 0] valT)
 have r0 := heap_alloc_keep (heap_alloc_keep (heap_alloc_new w (.cells #[.string nm, .int .i64 k, .int .i64 at_, .int .i64 sz, .int .i64 tu, .int .i64 tg, .int .i64 pl] accT)) (.cells #[.int .i64 n.kind, .string n.data, .slice h.A n.ptrs.length h.a, .int .i64 n.size, .int .i64 n.count, .slice h.B n.items.length h.b] nodeT)) (.cells #[.int .i64 0, .int .i64 0, .string { data := #[] }, .slice none 0 0, .int .i64 0, .int .i64 0, .slice none 0 0] valT)
 have r1 := heap_alloc_keep (al_row q0 #[.int .i64 n.kind, .string n.data, .slice h.A n.ptrs.length h.a, .int .i64 n.size, .int .i64 n.count, .slice h.B n.items.length h.b] nodeT) (.cells #[.int .i64 0, .int .i64 0, .string { data := #[] }, .slice none 0 0, .int .i64 0, .int .i64 0, .slice none 0 0] valT)
 have r2 := al_row q1 #[.int .i64 0, .int .i64 0, .string { data := #[] }, .slice none 0 0, .int .i64 0, .int .i64 0, .slice none 0 0] valT
 have HB0 := Lib.hid q2.2
 have R0 := Lib.hid r0
 have R1 := Lib.hid r1
 have R2 := Lib.hid r2
 obtain ⟨a0, a1, a2, a3, a4, a5, a6⟩ := cellsV r0
 clear q2 q1 q0 r0 r1 r2 hn htn hA hR hny hyz HAC hs ht hp
 go_enter Try.func10, Try.ntmps10
 go_wp2_with fail
 generalize ((w.alloc (.cells #[.string nm, .int .i64 k, .int .i64 at_, .int .i64 sz, .int .i64 tu, .int .i64 tg, .int .i64 pl] accT)).alloc (.cells #[.int .i64 n.kind, .string n.data, .slice h.A n.ptrs.length h.a, .int .i64 n.size, .int .i64 n.count, .slice h.B n.items.length h.b] nodeT)).alloc (.cells #[.int .i64 0, .int .i64 0, .string { data := #[] }, .slice none 0 0, .int .i64 0, .int .i64 0, .slice none 0 0] valT) = W at *
 clear a0 a1 a2 a3 a4 a5 a6
 refine (HOK.out W).mono ?_
 rintro e w1 ⟨rfl, hb1⟩
 have HB1 := Lib.hid (HB0.out.trans (hb1.mono HB0.out.size))
 have X0 := Lib.hid ((hb1.block _ (row_lt R0.out)).trans R0.out)
 have X1 := Lib.hid ((hb1.block _ (row_lt R1.out)).trans R1.out)
 have X2 := Lib.hid ((hb1.block _ (row_lt R2.out)).trans R2.out)
 clear hb1
 obtain ⟨n0, n1, n2, n3, n4, n5⟩ := cells6 X1.out
 go_wp2_with fail
 clear n0 n1 n2 n3 n4 n5
 refine (HRC.out w1 HB1.out).mono ?_
 rintro e w2 ⟨rfl, hb2⟩
 have HB2 := Lib.hid (HB1.out.trans (hb2.mono HB1.out.size))
 have Y0 := Lib.hid ((hb2.block _ (row_lt X0.out)).trans X0.out)
 have Y1 := Lib.hid ((hb2.block _ (row_lt X1.out)).trans X1.out)
 have Y2 := Lib.hid ((hb2.block _ (row_lt X2.out)).trans X2.out)
 clear hb2
 go_wp2_with fail
 have HDR : Hid (Below w2.heap.size w2 w2.drew) := Lib.hid ⟨rfl, rfl, rfl, Nat.le_refl _, fun _ _ => rfl⟩
 have HBD := Lib.hid (HB2.out.trans (HDR.out.mono HB2.out.size))
 refine wp_region_held_drew (S := (fun V => V.heap[w.heap.size]? = some (.cells #[.string nm, .int .i64 k, .int .i64 at_, .int .i64 sz, .int .i64 tu, .int .i64 tg, .int .i64 pl] accT (0, 0)) ∧ V.heap[w.heap.size + 1]? = some (.cells #[.int .i64 n.kind, .string n.data, .slice h.A n.ptrs.length h.a, .int .i64 n.size, .int .i64 n.count, .slice h.B n.items.length h.b] nodeT (0, 0)))) (by kernel_rfl) ?_ (fun hH0 => ?_)
 · exact ⟨Y0.out, Y1.out⟩
 have hC := HDR.out
 have hHo := hH0
 clear hH0
 have u0 := Y0.out
 have u1 := Y1.out
 refine wpAnyH_take (i := 0) (v := .agg #[.string nm, .int .i64 k, .int .i64 at_, .int .i64 sz, .int .i64 tu, .int .i64 tg, .int .i64 pl]) rfl (by kernel_rfl) (by kernel_rfl) (by kernel_rfl) (fun _ _ _ h => h) (Or.inl ⟨by rfl, ?_⟩) (by assumption) ?_
 · intro w hSw
   obtain ⟨s0, s1, s2, s3, s4, s5, s6⟩ := cellsV hSw.1
   go_simp
 try simp only [List.getElem_toArray, List.getElem_cons_succ, List.getElem_cons_zero, Act.put, List.setIfInBounds_toArray, List.set_cons_zero, List.set_cons_succ]
 refine wpAnyH_take (i := 3) (v := .agg #[.int .i64 n.kind, .string n.data, .slice h.A n.ptrs.length h.a, .int .i64 n.size, .int .i64 n.count, .slice h.B n.items.length h.b]) rfl (by kernel_rfl) (by kernel_rfl) (by kernel_rfl) (fun _ _ _ h => h) (Or.inl ⟨by rfl, ?_⟩) (by assumption) ?_
 · intro w hSw
   obtain ⟨s0, s1, s2, s3, s4, s5⟩ := cells6 hSw.2
   go_simp
 try simp only [List.getElem_toArray, List.getElem_cons_succ, List.getElem_cons_zero, Act.put, List.setIfInBounds_toArray, List.set_cons_zero, List.set_cons_succ]
 refine wpAnyH_ready (rs := [1, 8]) (by kernel_rfl) (by simp) ?_
 refine AllReadyH.cons rfl (fun K hK => ?_) (AllReadyH.cons rfl (fun K hK => ?_) AllReadyH.nil)
 · go_simp
   go_at_call 28
   refine (HAO.out _ (HB2.out.trans (hC.mono HB2.out.size))).mono ?_
   rintro e w3 ⟨b, g, rfl, hb3, HG⟩
   have hG := Lib.hid HG
   clear HG
   have hC' := hC.trans (hb3.mono hC.size)
   have hcs := hb3.size
   have v0 := (hb3.block _ (row_lt u0)).trans u0
   have v1 := (hb3.block _ (row_lt u1)).trans u1
   clear hb3 hC u0 u1
   go_wp2_with fail
   refine hK.out _ _ ⟨v0, v1⟩ (fun hHn => ?_)
   clear hK K hHo
   have hHo := hHn
   clear hHn
   have u0 := v0
   have u1 := v1
   have hC := hC'
   clear v0 v1 hC'
   try simp only [List.getElem_toArray, List.getElem_cons_succ, List.getElem_cons_zero, Act.put, List.setIfInBounds_toArray, List.set_cons_zero, List.set_cons_succ]
   have HFL1 := HFL.out
   refine wpAnyH_take (i := 2) (v := ?_) rfl (by kernel_rfl) (by kernel_rfl) (by kernel_rfl) (fun _ _ _ h => h) (Or.inl ⟨by rfl, ?_⟩) (by assumption) ?_
   rotate_left
   · intro w hSw
     (try dsimp only at hSw)
     go_simp
     try with_reducible rfl
   try simp only [List.getElem_toArray, List.getElem_cons_succ, List.getElem_cons_zero, Act.put, List.setIfInBounds_toArray, List.set_cons_zero, List.set_cons_succ]
   clear HFL1
   unfold point1V
   refine wpAnyH_ready (rs := [4, 8]) (by kernel_rfl) (by simp) ?_
   refine AllReadyH.cons rfl (fun K hK => ?_) (AllReadyH.cons rfl (fun K hK => ?_) AllReadyH.nil)
   · go_simp
     go_at_call 68
     refine (hG.out _ (Below.refl _ _)).mono ?_
     rintro e w4 ⟨rfl, hb4⟩
     have hC' := hC.trans (hb4.mono hC.size)
     have v0 := (hb4.block _ (row_lt u0)).trans u0
     have v1 := (hb4.block _ (row_lt u1)).trans u1
     clear hb4 hC u0 u1 hG
     go_wp2_with fail
     refine hK.out _ _ ⟨v0, v1⟩ (fun hHn => ?_)
     clear hK K hHo
     have hHo := hHn
     clear hHn
     have u0 := v0
     have u1 := v1
     have hC := hC'
     clear v0 v1 hC'
     try simp only [List.getElem_toArray, List.getElem_cons_succ, List.getElem_cons_zero, Act.put, List.setIfInBounds_toArray, List.set_cons_zero, List.set_cons_succ]
     refine wpAnyH_take (i := 5) (v := ?_) rfl (by kernel_rfl) (by kernel_rfl) (by kernel_rfl) (fun _ _ _ h => h) (Or.inl ⟨by rfl, ?_⟩) (by assumption) ?_
     rotate_left
     · intro w hSw
       (try dsimp only at hSw)
       go_simp
       try with_reducible rfl
     try simp only [List.getElem_toArray, List.getElem_cons_succ, List.getElem_cons_zero, Act.put, List.setIfInBounds_toArray, List.set_cons_zero, List.set_cons_succ]
     refine wpAnyH_take (i := 6) (v := ?_) rfl (by kernel_rfl) (by kernel_rfl) (by kernel_rfl) (fun _ _ _ h => h) (Or.inl ⟨by rfl, ?_⟩) (by assumption) ?_
     rotate_left
     · intro w hSw
       (try dsimp only at hSw)
       go_simp
       try with_reducible rfl
     try simp only [List.getElem_toArray, List.getElem_cons_succ, List.getElem_cons_zero, Act.put, List.setIfInBounds_toArray, List.set_cons_zero, List.set_cons_succ]
     refine wpAnyH_take (i := 7) (v := ?_) rfl (by kernel_rfl) (by kernel_rfl) (by kernel_rfl) (fun _ _ _ h => h) (Or.inl ⟨by rfl, ?_⟩) (by assumption) ?_
     rotate_left
     · intro w hSw
       (try dsimp only at hSw)
       go_simp
       try with_reducible rfl
     try simp only [List.getElem_toArray, List.getElem_cons_succ, List.getElem_cons_zero, Act.put, List.setIfInBounds_toArray, List.set_cons_zero, List.set_cons_succ]
     refine wpAnyH_ready (rs := [8]) (by kernel_rfl) (by simp) ?_
     refine AllReadyH.cons rfl (fun K hK => ?_) AllReadyH.nil
     go_simp
     have hba : Below w4.heap.size w4 ((w4.alloc (.cells #[.int .i64 0, .int .i64 0, .string { data := #[] }, .slice none 0 0, .int .i64 0, .int .i64 0, .slice none 0 0] valT))) := (Below.refl w4.heap.size w4).alloc (Nat.le_refl _) (.cells #[.int .i64 0, .int .i64 0, .string { data := #[] }, .slice none 0 0, .int .i64 0, .int .i64 0, .slice none 0 0] valT)
     have hC' : Below w2.heap.size w2 ((w4.alloc (.cells #[.int .i64 0, .int .i64 0, .string { data := #[] }, .slice none 0 0, .int .i64 0, .int .i64 0, .slice none 0 0] valT))) := hC.trans (hba.mono hC.size)
     have ub : ((w4.alloc (.cells #[.int .i64 0, .int .i64 0, .string { data := #[] }, .slice none 0 0, .int .i64 0, .int .i64 0, .slice none 0 0] valT))).heap[w4.heap.size]? = some (.cells #[.int .i64 0, .int .i64 0, .string { data := #[] }, .slice none 0 0, .int .i64 0, .int .i64 0, .slice none 0 0] valT (0, 0)) := heap_alloc_new w4 (.cells #[.int .i64 0, .int .i64 0, .string { data := #[] }, .slice none 0 0, .int .i64 0, .int .i64 0, .slice none 0 0] valT)
     have v0 := (hba.block _ (row_lt u0)).trans u0
     have v1 := (hba.block _ (row_lt u1)).trans u1
     obtain ⟨vb, hvbe⟩ : ∃ vb, vb = w4.heap.size := ⟨_, rfl⟩
     have hvb : w2.heap.size ≤ vb := by rw [hvbe]; exact hC.size
     clear hba hC u0 u1
     rw [← hvbe] at ub ⊢
     clear hvbe
     generalize ((w4.alloc (.cells #[.int .i64 0, .int .i64 0, .string { data := #[] }, .slice none 0 0, .int .i64 0, .int .i64 0, .slice none 0 0] valT))) = wb at *
     refine hK.out _ _ ⟨v0, v1⟩ (fun hHn => ?_)
     clear hK K hHo
     have hHo := hHn
     clear hHn
     have u0 := v0
     have u1 := v1
     have hC := hC'
     clear v0 v1 hC'
     try simp only [List.getElem_toArray, List.getElem_cons_succ, List.getElem_cons_zero, Act.put, List.setIfInBounds_toArray, List.set_cons_zero, List.set_cons_succ]
     refine wpAnyH_ready (rs := [9]) (by kernel_rfl) (by simp) ?_
     refine AllReadyH.cons rfl (fun K hK => ?_) AllReadyH.nil
     obtain ⟨z0, z1, z2, z3, z4, z5, z6⟩ := cellsV ub
     have zf := row_free ub
     go_simp
     obtain ⟨wf, hwf, hrw, hbf, hkf⟩ := finV (w := w2) (R := w2.heap.size) (.int .i64 x) (.int .i64 y.kind) (.string y.data) (.slice hy.A y.ptrs.length hy.a) (.int .i64 y.size) (.int .i64 y.count) (.slice hy.B y.items.length hy.b) ub hC hvb
     have HWF := Lib.hid hwf
     have hlb := row_lt Y1.out
     have v0 := (hkf _ (by omega)).trans u0
     have v1 := (hkf _ (by omega)).trans u1
     clear hwf z0 z1 z2 z3 z4 z5 z6 zf ub hC u0 u1 hkf
     rw [HWF.out]
     refine hK.out _ _ ⟨v0, v1⟩ (fun hHn => ?_)
     clear hK K hHo HWF
     try simp only [List.getElem_toArray, List.getElem_cons_succ, List.getElem_cons_zero, Act.put, List.setIfInBounds_toArray, List.set_cons_zero, List.set_cons_succ]
     have hHo := hHn
     clear hHn
     refine wpAnyH_take (i := 10) (v := ?_) rfl (by kernel_rfl) (by kernel_rfl) (by kernel_rfl) (fun _ _ _ h => h) (Or.inl ⟨by rfl, ?_⟩) (by assumption) ?_
     rotate_left
     · intro w hSw
       (try dsimp only at hSw)
       go_simp
       try with_reducible rfl
     try simp only [List.getElem_toArray, List.getElem_cons_succ, List.getElem_cons_zero, Act.put, List.setIfInBounds_toArray, List.set_cons_zero, List.set_cons_succ]
     refine wpAnyH_done (by kernel_rfl) ?_ _
     clear hHo v0 v1
     obtain ⟨z0, z1, z2, z3, z4, z5, z6⟩ := cellsV hrw
     have hlv := row_lt hrw
     have HBV := Lib.hid (HB2.out.trans (hbf.mono HB2.out.size))
     have HRW := Lib.hid hrw
     have HZ2 := Lib.hid ((hbf.block _ (row_lt Y2.out)).trans Y2.out)
     have hly := row_lt Y2.out
     clear hbf hrw
     go_wp2_with fail
     clear z0 z1 z2 z3 z4 z5 z6
     refine (HCP.out _ HBV.out).mono ?_
     rintro e w5 ⟨h5, bs, rfl, ho, hd, hg, hb5⟩
     have hr5 := (hb5.block _ hlv).trans HRW.out
     have HZ5 := Lib.hid ((hb5.block _ (row_lt HZ2.out)).trans HZ2.out)
     have HB5 := Lib.hid (HBV.out.trans (hb5.mono HBV.out.size))
     have HR5 := Lib.hid hr5
     have HO := Lib.hid ho
     have HG := Lib.hid (And.intro hd hg)
     obtain ⟨z0, z1, z2, z3, z4, z5, z6⟩ := cellsV hr5
     have zf := row_free hr5
     obtain ⟨w6, hw6, hrw6, hbf6, hkf6⟩ := finW (w := w) (R := w.heap.size) (.int .i64 y.kind) (.string y.data) (.slice h5.A y.ptrs.length h5.a) (.int .i64 y.size) (.int .i64 y.count) (.slice h5.B y.items.length h5.b) HR5.out HB5.out (by have := HB2.out.size; omega)
     have hz6 := (hkf6 _ (by omega)).trans HZ5.out
     obtain ⟨f0, f1, f2, f3, f4, f5, f6⟩ := cellsV hrw6
     obtain ⟨g0, g1, g2, g3, g4, g5, g6⟩ := cellsV hz6
     have gf := row_free hz6
     have HW6 := Lib.hid hw6
     have HBF6 := Lib.hid hbf6
     have HK6 := Lib.hid hkf6
     have HZ6 := Lib.hid hz6
     clear hbf6 hkf6 hz6 hb5 ho hd hg hr5
     go_wp2_with (fail)
     obtain ⟨w7, hw7, hrw7, hbf7, hkf7⟩ := finV (w := w) (R := w.heap.size) (.int .i64 x) (.int .i64 y.kind) (.string y.data) (.slice h5.A y.ptrs.length h5.a) (.int .i64 y.size) (.int .i64 y.count) (.slice h5.B y.items.length h5.b) HZ6.out HBF6.out (by omega)
     try rw [hw7]
     obtain ⟨e0, e1, e2, e3, e4, e5, e6⟩ := cellsV hrw7
     exact bodyPost_ret (v := .tuple #[valV x y h5, .bool ok]) (by simp [results, Try.results10, go_sem, e0, e1, e2, e3, e4, e5, e6]) rfl ⟨h5, bs, rfl, HO.out.frame (fun b hb => (hkf7 _ (by have := HG.out.2 b hb; omega)).trans (HK6.out _ (by have := HG.out.2 b hb; omega))), HG.out.1, fun b hb => by have := HG.out.2 b hb; have := HBV.out.size; omega, hbf7⟩
   · have hG2 := (Below.refl w3.heap.size w3).alloc (Nat.le_refl _) (.cells #[.int .i64 0, .int .i64 0, .string { data := #[] }, .slice none 0 0, .int .i64 0, .int .i64 0, .slice none 0 0] valT)
     go_simp
     have hba : Below w3.heap.size w3 ((w3.alloc (.cells #[.int .i64 0, .int .i64 0, .string { data := #[] }, .slice none 0 0, .int .i64 0, .int .i64 0, .slice none 0 0] valT))) := (Below.refl w3.heap.size w3).alloc (Nat.le_refl _) (.cells #[.int .i64 0, .int .i64 0, .string { data := #[] }, .slice none 0 0, .int .i64 0, .int .i64 0, .slice none 0 0] valT)
     have hC' : Below w2.heap.size w2 ((w3.alloc (.cells #[.int .i64 0, .int .i64 0, .string { data := #[] }, .slice none 0 0, .int .i64 0, .int .i64 0, .slice none 0 0] valT))) := hC.trans (hba.mono hC.size)
     have ub : ((w3.alloc (.cells #[.int .i64 0, .int .i64 0, .string { data := #[] }, .slice none 0 0, .int .i64 0, .int .i64 0, .slice none 0 0] valT))).heap[w3.heap.size]? = some (.cells #[.int .i64 0, .int .i64 0, .string { data := #[] }, .slice none 0 0, .int .i64 0, .int .i64 0, .slice none 0 0] valT (0, 0)) := heap_alloc_new w3 (.cells #[.int .i64 0, .int .i64 0, .string { data := #[] }, .slice none 0 0, .int .i64 0, .int .i64 0, .slice none 0 0] valT)
     have v0 := (hba.block _ (row_lt u0)).trans u0
     have v1 := (hba.block _ (row_lt u1)).trans u1
     obtain ⟨vb, hvbe⟩ : ∃ vb, vb = w3.heap.size := ⟨_, rfl⟩
     have hvb : w2.heap.size ≤ vb := by rw [hvbe]; exact hC.size
     clear hba hC u0 u1
     rw [← hvbe] at ub ⊢
     clear hvbe
     generalize ((w3.alloc (.cells #[.int .i64 0, .int .i64 0, .string { data := #[] }, .slice none 0 0, .int .i64 0, .int .i64 0, .slice none 0 0] valT))) = wa at *
     refine hK.out _ _ ⟨v0, v1⟩ (fun hHn => ?_)
     clear hK K hHo
     have hHo := hHn
     clear hHn
     have u0 := v0
     have u1 := v1
     have hC := hC'
     clear v0 v1 hC'
     try simp only [List.getElem_toArray, List.getElem_cons_succ, List.getElem_cons_zero, Act.put, List.setIfInBounds_toArray, List.set_cons_zero, List.set_cons_succ]
     refine wpAnyH_ready (rs := [4]) (by kernel_rfl) (by simp) ?_
     refine AllReadyH.cons rfl (fun K hK => ?_) AllReadyH.nil
     go_simp
     go_at_call 68
     refine (hG.out _ hG2).mono ?_
     rintro e w4 ⟨rfl, hb4⟩
     have hC' := hC.trans (hb4.mono hC.size)
     have v0 := (hb4.block _ (row_lt u0)).trans u0
     have v1 := (hb4.block _ (row_lt u1)).trans u1
     have wb := (hb4.block _ (row_lt ub)).trans ub
     clear ub
     have ub := wb
     clear wb
     clear hb4 hC u0 u1 hG
     go_wp2_with fail
     refine hK.out _ _ ⟨v0, v1⟩ (fun hHn => ?_)
     clear hK K hHo
     have hHo := hHn
     clear hHn
     have u0 := v0
     have u1 := v1
     have hC := hC'
     clear v0 v1 hC'
     try simp only [List.getElem_toArray, List.getElem_cons_succ, List.getElem_cons_zero, Act.put, List.setIfInBounds_toArray, List.set_cons_zero, List.set_cons_succ]
     refine wpAnyH_take (i := 5) (v := ?_) rfl (by kernel_rfl) (by kernel_rfl) (by kernel_rfl) (fun _ _ _ h => h) (Or.inl ⟨by rfl, ?_⟩) (by assumption) ?_
     rotate_left
     · intro w hSw
       (try dsimp only at hSw)
       go_simp
       try with_reducible rfl
     try simp only [List.getElem_toArray, List.getElem_cons_succ, List.getElem_cons_zero, Act.put, List.setIfInBounds_toArray, List.set_cons_zero, List.set_cons_succ]
     refine wpAnyH_take (i := 6) (v := ?_) rfl (by kernel_rfl) (by kernel_rfl) (by kernel_rfl) (fun _ _ _ h => h) (Or.inl ⟨by rfl, ?_⟩) (by assumption) ?_
     rotate_left
     · intro w hSw
       (try dsimp only at hSw)
       go_simp
       try with_reducible rfl
     try simp only [List.getElem_toArray, List.getElem_cons_succ, List.getElem_cons_zero, Act.put, List.setIfInBounds_toArray, List.set_cons_zero, List.set_cons_succ]
     refine wpAnyH_take (i := 7) (v := ?_) rfl (by kernel_rfl) (by kernel_rfl) (by kernel_rfl) (fun _ _ _ h => h) (Or.inl ⟨by rfl, ?_⟩) (by assumption) ?_
     rotate_left
     · intro w hSw
       (try dsimp only at hSw)
       go_simp
       try with_reducible rfl
     try simp only [List.getElem_toArray, List.getElem_cons_succ, List.getElem_cons_zero, Act.put, List.setIfInBounds_toArray, List.set_cons_zero, List.set_cons_succ]
     refine wpAnyH_ready (rs := [9]) (by kernel_rfl) (by simp) ?_
     refine AllReadyH.cons rfl (fun K hK => ?_) AllReadyH.nil
     obtain ⟨z0, z1, z2, z3, z4, z5, z6⟩ := cellsV ub
     have zf := row_free ub
     go_simp
     obtain ⟨wf, hwf, hrw, hbf, hkf⟩ := finV (w := w2) (R := w2.heap.size) (.int .i64 x) (.int .i64 y.kind) (.string y.data) (.slice hy.A y.ptrs.length hy.a) (.int .i64 y.size) (.int .i64 y.count) (.slice hy.B y.items.length hy.b) ub hC hvb
     have HWF := Lib.hid hwf
     have hlb := row_lt Y1.out
     have v0 := (hkf _ (by omega)).trans u0
     have v1 := (hkf _ (by omega)).trans u1
     clear hwf z0 z1 z2 z3 z4 z5 z6 zf ub hC u0 u1 hkf
     rw [HWF.out]
     refine hK.out _ _ ⟨v0, v1⟩ (fun hHn => ?_)
     clear hK K hHo HWF
     try simp only [List.getElem_toArray, List.getElem_cons_succ, List.getElem_cons_zero, Act.put, List.setIfInBounds_toArray, List.set_cons_zero, List.set_cons_succ]
     have hHo := hHn
     clear hHn
     refine wpAnyH_take (i := 10) (v := ?_) rfl (by kernel_rfl) (by kernel_rfl) (by kernel_rfl) (fun _ _ _ h => h) (Or.inl ⟨by rfl, ?_⟩) (by assumption) ?_
     rotate_left
     · intro w hSw
       (try dsimp only at hSw)
       go_simp
       try with_reducible rfl
     try simp only [List.getElem_toArray, List.getElem_cons_succ, List.getElem_cons_zero, Act.put, List.setIfInBounds_toArray, List.set_cons_zero, List.set_cons_succ]
     refine wpAnyH_done (by kernel_rfl) ?_ _
     clear hHo v0 v1
     obtain ⟨z0, z1, z2, z3, z4, z5, z6⟩ := cellsV hrw
     have hlv := row_lt hrw
     have HBV := Lib.hid (HB2.out.trans (hbf.mono HB2.out.size))
     have HRW := Lib.hid hrw
     have HZ2 := Lib.hid ((hbf.block _ (row_lt Y2.out)).trans Y2.out)
     have hly := row_lt Y2.out
     clear hbf hrw
     go_wp2_with fail
     clear z0 z1 z2 z3 z4 z5 z6
     refine (HCP.out _ HBV.out).mono ?_
     rintro e w5 ⟨h5, bs, rfl, ho, hd, hg, hb5⟩
     have hr5 := (hb5.block _ hlv).trans HRW.out
     have HZ5 := Lib.hid ((hb5.block _ (row_lt HZ2.out)).trans HZ2.out)
     have HB5 := Lib.hid (HBV.out.trans (hb5.mono HBV.out.size))
     have HR5 := Lib.hid hr5
     have HO := Lib.hid ho
     have HG := Lib.hid (And.intro hd hg)
     obtain ⟨z0, z1, z2, z3, z4, z5, z6⟩ := cellsV hr5
     have zf := row_free hr5
     obtain ⟨w6, hw6, hrw6, hbf6, hkf6⟩ := finW (w := w) (R := w.heap.size) (.int .i64 y.kind) (.string y.data) (.slice h5.A y.ptrs.length h5.a) (.int .i64 y.size) (.int .i64 y.count) (.slice h5.B y.items.length h5.b) HR5.out HB5.out (by have := HB2.out.size; omega)
     have hz6 := (hkf6 _ (by omega)).trans HZ5.out
     obtain ⟨f0, f1, f2, f3, f4, f5, f6⟩ := cellsV hrw6
     obtain ⟨g0, g1, g2, g3, g4, g5, g6⟩ := cellsV hz6
     have gf := row_free hz6
     have HW6 := Lib.hid hw6
     have HBF6 := Lib.hid hbf6
     have HK6 := Lib.hid hkf6
     have HZ6 := Lib.hid hz6
     clear hbf6 hkf6 hz6 hb5 ho hd hg hr5
     go_wp2_with (fail)
     obtain ⟨w7, hw7, hrw7, hbf7, hkf7⟩ := finV (w := w) (R := w.heap.size) (.int .i64 x) (.int .i64 y.kind) (.string y.data) (.slice h5.A y.ptrs.length h5.a) (.int .i64 y.size) (.int .i64 y.count) (.slice h5.B y.items.length h5.b) HZ6.out HBF6.out (by omega)
     try rw [hw7]
     obtain ⟨e0, e1, e2, e3, e4, e5, e6⟩ := cellsV hrw7
     exact bodyPost_ret (v := .tuple #[valV x y h5, .bool ok]) (by simp [results, Try.results10, go_sem, e0, e1, e2, e3, e4, e5, e6]) rfl ⟨h5, bs, rfl, HO.out.frame (fun b hb => (hkf7 _ (by have := HG.out.2 b hb; omega)).trans (HK6.out _ (by have := HG.out.2 b hb; omega))), HG.out.1, fun b hb => by have := HG.out.2 b hb; have := HBV.out.size; omega, hbf7⟩
 · go_simp
   have hba : Below w2.heap.size w2.drew ((w2.alloc (.cells #[.int .i64 0, .int .i64 0, .string { data := #[] }, .slice none 0 0, .int .i64 0, .int .i64 0, .slice none 0 0] valT)).drew) := (Below.refl w2.drew.heap.size w2.drew).alloc (Nat.le_refl _) (.cells #[.int .i64 0, .int .i64 0, .string { data := #[] }, .slice none 0 0, .int .i64 0, .int .i64 0, .slice none 0 0] valT)
   have hC' : Below w2.heap.size w2 ((w2.alloc (.cells #[.int .i64 0, .int .i64 0, .string { data := #[] }, .slice none 0 0, .int .i64 0, .int .i64 0, .slice none 0 0] valT)).drew) := hC.trans (hba.mono hC.size)
   have ub : ((w2.alloc (.cells #[.int .i64 0, .int .i64 0, .string { data := #[] }, .slice none 0 0, .int .i64 0, .int .i64 0, .slice none 0 0] valT)).drew).heap[w2.heap.size]? = some (.cells #[.int .i64 0, .int .i64 0, .string { data := #[] }, .slice none 0 0, .int .i64 0, .int .i64 0, .slice none 0 0] valT (0, 0)) := heap_alloc_new w2.drew (.cells #[.int .i64 0, .int .i64 0, .string { data := #[] }, .slice none 0 0, .int .i64 0, .int .i64 0, .slice none 0 0] valT)
   have v0 := (hba.block _ (row_lt u0)).trans u0
   have v1 := (hba.block _ (row_lt u1)).trans u1
   obtain ⟨vb, hvbe⟩ : ∃ vb, vb = w2.heap.size := ⟨_, rfl⟩
   have hvb : w2.heap.size ≤ vb := by rw [hvbe]; exact hC.size
   clear hba hC u0 u1
   rw [← hvbe] at ub ⊢
   clear hvbe
   generalize ((w2.alloc (.cells #[.int .i64 0, .int .i64 0, .string { data := #[] }, .slice none 0 0, .int .i64 0, .int .i64 0, .slice none 0 0] valT)).drew) = wa at *
   refine hK.out _ _ ⟨v0, v1⟩ (fun hHn => ?_)
   clear hK K hHo
   have hHo := hHn
   clear hHn
   have u0 := v0
   have u1 := v1
   have hC := hC'
   clear v0 v1 hC'
   try simp only [List.getElem_toArray, List.getElem_cons_succ, List.getElem_cons_zero, Act.put, List.setIfInBounds_toArray, List.set_cons_zero, List.set_cons_succ]
   refine wpAnyH_ready (rs := [1]) (by kernel_rfl) (by simp) ?_
   refine AllReadyH.cons rfl (fun K hK => ?_) AllReadyH.nil
   go_simp
   go_at_call 28
   refine (HAO.out _ (HB2.out.trans (hC.mono HB2.out.size))).mono ?_
   rintro e w3 ⟨b, g, rfl, hb3, HG⟩
   have hG := Lib.hid HG
   clear HG
   have hC' := hC.trans (hb3.mono hC.size)
   have hcs := hb3.size
   have v0 := (hb3.block _ (row_lt u0)).trans u0
   have v1 := (hb3.block _ (row_lt u1)).trans u1
   have wb := (hb3.block _ (row_lt ub)).trans ub
   clear ub
   have ub := wb
   clear wb
   clear hb3 hC u0 u1
   go_wp2_with fail
   refine hK.out _ _ ⟨v0, v1⟩ (fun hHn => ?_)
   clear hK K hHo
   have hHo := hHn
   clear hHn
   have u0 := v0
   have u1 := v1
   have hC := hC'
   clear v0 v1 hC'
   try simp only [List.getElem_toArray, List.getElem_cons_succ, List.getElem_cons_zero, Act.put, List.setIfInBounds_toArray, List.set_cons_zero, List.set_cons_succ]
   have HFL1 := HFL.out
   refine wpAnyH_take (i := 2) (v := ?_) rfl (by kernel_rfl) (by kernel_rfl) (by kernel_rfl) (fun _ _ _ h => h) (Or.inl ⟨by rfl, ?_⟩) (by assumption) ?_
   rotate_left
   · intro w hSw
     (try dsimp only at hSw)
     go_simp
     try with_reducible rfl
   try simp only [List.getElem_toArray, List.getElem_cons_succ, List.getElem_cons_zero, Act.put, List.setIfInBounds_toArray, List.set_cons_zero, List.set_cons_succ]
   clear HFL1
   unfold point1V
   refine wpAnyH_ready (rs := [4]) (by kernel_rfl) (by simp) ?_
   refine AllReadyH.cons rfl (fun K hK => ?_) AllReadyH.nil
   go_simp
   go_at_call 68
   refine (hG.out _ (Below.refl _ _)).mono ?_
   rintro e w4 ⟨rfl, hb4⟩
   have hC' := hC.trans (hb4.mono hC.size)
   have v0 := (hb4.block _ (row_lt u0)).trans u0
   have v1 := (hb4.block _ (row_lt u1)).trans u1
   have wb := (hb4.block _ (row_lt ub)).trans ub
   clear ub
   have ub := wb
   clear wb
   clear hb4 hC u0 u1 hG
   go_wp2_with fail
   refine hK.out _ _ ⟨v0, v1⟩ (fun hHn => ?_)
   clear hK K hHo
   have hHo := hHn
   clear hHn
   have u0 := v0
   have u1 := v1
   have hC := hC'
   clear v0 v1 hC'
   try simp only [List.getElem_toArray, List.getElem_cons_succ, List.getElem_cons_zero, Act.put, List.setIfInBounds_toArray, List.set_cons_zero, List.set_cons_succ]
   refine wpAnyH_take (i := 5) (v := ?_) rfl (by kernel_rfl) (by kernel_rfl) (by kernel_rfl) (fun _ _ _ h => h) (Or.inl ⟨by rfl, ?_⟩) (by assumption) ?_
   rotate_left
   · intro w hSw
     (try dsimp only at hSw)
     go_simp
     try with_reducible rfl
   try simp only [List.getElem_toArray, List.getElem_cons_succ, List.getElem_cons_zero, Act.put, List.setIfInBounds_toArray, List.set_cons_zero, List.set_cons_succ]
   refine wpAnyH_take (i := 6) (v := ?_) rfl (by kernel_rfl) (by kernel_rfl) (by kernel_rfl) (fun _ _ _ h => h) (Or.inl ⟨by rfl, ?_⟩) (by assumption) ?_
   rotate_left
   · intro w hSw
     (try dsimp only at hSw)
     go_simp
     try with_reducible rfl
   try simp only [List.getElem_toArray, List.getElem_cons_succ, List.getElem_cons_zero, Act.put, List.setIfInBounds_toArray, List.set_cons_zero, List.set_cons_succ]
   refine wpAnyH_take (i := 7) (v := ?_) rfl (by kernel_rfl) (by kernel_rfl) (by kernel_rfl) (fun _ _ _ h => h) (Or.inl ⟨by rfl, ?_⟩) (by assumption) ?_
   rotate_left
   · intro w hSw
     (try dsimp only at hSw)
     go_simp
     try with_reducible rfl
   try simp only [List.getElem_toArray, List.getElem_cons_succ, List.getElem_cons_zero, Act.put, List.setIfInBounds_toArray, List.set_cons_zero, List.set_cons_succ]
   refine wpAnyH_ready (rs := [9]) (by kernel_rfl) (by simp) ?_
   refine AllReadyH.cons rfl (fun K hK => ?_) AllReadyH.nil
   obtain ⟨z0, z1, z2, z3, z4, z5, z6⟩ := cellsV ub
   have zf := row_free ub
   go_simp
   obtain ⟨wf, hwf, hrw, hbf, hkf⟩ := finV (w := w2) (R := w2.heap.size) (.int .i64 x) (.int .i64 y.kind) (.string y.data) (.slice hy.A y.ptrs.length hy.a) (.int .i64 y.size) (.int .i64 y.count) (.slice hy.B y.items.length hy.b) ub hC hvb
   have HWF := Lib.hid hwf
   have hlb := row_lt Y1.out
   have v0 := (hkf _ (by omega)).trans u0
   have v1 := (hkf _ (by omega)).trans u1
   clear hwf z0 z1 z2 z3 z4 z5 z6 zf ub hC u0 u1 hkf
   rw [HWF.out]
   refine hK.out _ _ ⟨v0, v1⟩ (fun hHn => ?_)
   clear hK K hHo HWF
   try simp only [List.getElem_toArray, List.getElem_cons_succ, List.getElem_cons_zero, Act.put, List.setIfInBounds_toArray, List.set_cons_zero, List.set_cons_succ]
   have hHo := hHn
   clear hHn
   refine wpAnyH_take (i := 10) (v := ?_) rfl (by kernel_rfl) (by kernel_rfl) (by kernel_rfl) (fun _ _ _ h => h) (Or.inl ⟨by rfl, ?_⟩) (by assumption) ?_
   rotate_left
   · intro w hSw
     (try dsimp only at hSw)
     go_simp
     try with_reducible rfl
   try simp only [List.getElem_toArray, List.getElem_cons_succ, List.getElem_cons_zero, Act.put, List.setIfInBounds_toArray, List.set_cons_zero, List.set_cons_succ]
   refine wpAnyH_done (by kernel_rfl) ?_ _
   clear hHo v0 v1
   obtain ⟨z0, z1, z2, z3, z4, z5, z6⟩ := cellsV hrw
   have hlv := row_lt hrw
   have HBV := Lib.hid (HB2.out.trans (hbf.mono HB2.out.size))
   have HRW := Lib.hid hrw
   have HZ2 := Lib.hid ((hbf.block _ (row_lt Y2.out)).trans Y2.out)
   have hly := row_lt Y2.out
   clear hbf hrw
   go_wp2_with fail
   clear z0 z1 z2 z3 z4 z5 z6
   refine (HCP.out _ HBV.out).mono ?_
   rintro e w5 ⟨h5, bs, rfl, ho, hd, hg, hb5⟩
   have hr5 := (hb5.block _ hlv).trans HRW.out
   have HZ5 := Lib.hid ((hb5.block _ (row_lt HZ2.out)).trans HZ2.out)
   have HB5 := Lib.hid (HBV.out.trans (hb5.mono HBV.out.size))
   have HR5 := Lib.hid hr5
   have HO := Lib.hid ho
   have HG := Lib.hid (And.intro hd hg)
   obtain ⟨z0, z1, z2, z3, z4, z5, z6⟩ := cellsV hr5
   have zf := row_free hr5
   obtain ⟨w6, hw6, hrw6, hbf6, hkf6⟩ := finW (w := w) (R := w.heap.size) (.int .i64 y.kind) (.string y.data) (.slice h5.A y.ptrs.length h5.a) (.int .i64 y.size) (.int .i64 y.count) (.slice h5.B y.items.length h5.b) HR5.out HB5.out (by have := HB2.out.size; omega)
   have hz6 := (hkf6 _ (by omega)).trans HZ5.out
   obtain ⟨f0, f1, f2, f3, f4, f5, f6⟩ := cellsV hrw6
   obtain ⟨g0, g1, g2, g3, g4, g5, g6⟩ := cellsV hz6
   have gf := row_free hz6
   have HW6 := Lib.hid hw6
   have HBF6 := Lib.hid hbf6
   have HK6 := Lib.hid hkf6
   have HZ6 := Lib.hid hz6
   clear hbf6 hkf6 hz6 hb5 ho hd hg hr5
   go_wp2_with (fail)
   obtain ⟨w7, hw7, hrw7, hbf7, hkf7⟩ := finV (w := w) (R := w.heap.size) (.int .i64 x) (.int .i64 y.kind) (.string y.data) (.slice h5.A y.ptrs.length h5.a) (.int .i64 y.size) (.int .i64 y.count) (.slice h5.B y.items.length h5.b) HZ6.out HBF6.out (by omega)
   try rw [hw7]
   obtain ⟨e0, e1, e2, e3, e4, e5, e6⟩ := cellsV hrw7
   exact bodyPost_ret (v := .tuple #[valV x y h5, .bool ok]) (by simp [results, Try.results10, go_sem, e0, e1, e2, e3, e4, e5, e6]) rfl ⟨h5, bs, rfl, HO.out.frame (fun b hb => (hkf7 _ (by have := HG.out.2 b hb; omega)).trans (HK6.out _ (by have := HG.out.2 b hb; omega))), HG.out.1, fun b hb => by have := HG.out.2 b hb; have := HBV.out.size; omega, hbf7⟩
theorem pointGet_a (n : Nd) (h : Hd) (at_ : Int) (b : Nat) (w : World) (x : Int) (y : Nd) (hy : Hd) (k0 : w.heap[b]? = some (.cells #[.int .i64 at_] 3 (0, 0)))
 (HG : ∀ V : World, Below w.heap.size w V → Calls Try.prog 69 #[.agg #[.int .i64 n.kind, .string n.data, .slice h.A n.ptrs.length h.a, .int .i64 n.size, .int .i64 n.count, .slice h.B n.items.length h.b], .int .i64 at_] V fun e w' => e = .returned (valV x y hy) ∧ Below V.heap.size V w') :
 Calls Try.prog 68 #[.agg #[.int .i64 n.kind, .string n.data, .slice h.A n.ptrs.length h.a, .int .i64 n.size, .int .i64 n.count, .slice h.B n.items.length h.b], .pointer (some ⟨b, 0, none⟩)] w (GetQ (valV x y hy) true w) := by
 have HGG := Lib.hid HG
 have q0 := al_first w (.cells #[.int .i64 n.kind, .string n.data, .slice h.A n.ptrs.length h.a, .int .i64 n.size, .int .i64 n.count, .slice h.B n.items.length h.b] nodeT)
 have q1 := al_next q0 (.cells #[.int .i64 0, .int .i64 0, .string { data := #[] }, .slice none 0 0, .int .i64 0, .int .i64 0, .slice none 0 0] valT)
 have r0 := heap_alloc_keep (heap_alloc_new w (.cells #[.int .i64 n.kind, .string n.data, .slice h.A n.ptrs.length h.a, .int .i64 n.size, .int .i64 n.count, .slice h.B n.items.length h.b] nodeT)) (.cells #[.int .i64 0, .int .i64 0, .string { data := #[] }, .slice none 0 0, .int .i64 0, .int .i64 0, .slice none 0 0] valT)
 have r1 := al_row q0 #[.int .i64 0, .int .i64 0, .string { data := #[] }, .slice none 0 0, .int .i64 0, .int .i64 0, .slice none 0 0] valT
 have c0 := cellA ((q1.2.block _ (row_lt k0)).trans k0)
 have HB0 := Lib.hid q1.2
 have HR1 := Lib.hid r1
 obtain ⟨a0, a1, a2, a3, a4, a5⟩ := cells6 r0
 clear q1 q0 r0 r1 k0 HG
 go_enter Try.func68, Try.ntmps68
 go_wp2_with fail
 generalize (w.alloc (.cells #[.int .i64 n.kind, .string n.data, .slice h.A n.ptrs.length h.a, .int .i64 n.size, .int .i64 n.count, .slice h.B n.items.length h.b] nodeT)).alloc (.cells #[.int .i64 0, .int .i64 0, .string { data := #[] }, .slice none 0 0, .int .i64 0, .int .i64 0, .slice none 0 0] valT) = W at *
 clear a0 a1 a2 a3 a4 a5 c0
 refine (HGG.out W HB0.out).mono ?_
 rintro e w3 ⟨rfl, hb3⟩
 have HB3 := Lib.hid (HB0.out.trans (hb3.mono HB0.out.size))
 have hr3 := (hb3.block _ (row_lt HR1.out)).trans HR1.out
 have HR3 := Lib.hid hr3
 obtain ⟨z0, z1, z2, z3, z4, z5, z6⟩ := cellsV hr3
 have zf := row_free hr3
 clear hb3 hr3
 go_wp2_with fail
 obtain ⟨wf, hwf, hrw, hbf, -⟩ := finV (R := w.heap.size) (.int .i64 x) (.int .i64 y.kind) (.string y.data) (.slice hy.A y.ptrs.length hy.a) (.int .i64 y.size) (.int .i64 y.count) (.slice hy.B y.items.length hy.b) HR3.out HB3.out (by omega)
 rw [hwf]
 obtain ⟨e0, e1, e2, e3, e4, e5, e6⟩ := cellsV hrw
 exact bodyPost_ret (v := .tuple #[valV x y hy, .bool true]) (by simp [results, Try.results68, go_sem, e0, e1, e2, e3, e4, e5, e6]) rfl ⟨rfl, hbf⟩
theorem acGet_noA (nm : ByteArray) (k at_ sz tu tg pl : Int) (m : Nat) (n : Nd) (h : Hd) (w : World) (S : Nat → Prop) (hs : nm.size ≤ maxLen) (ht : i64b tu) (hp : i64b pl) (hn : NdAt w S m n h) (htn : totN m n ≤ 2000000) (M : Nat) (hx : accB nm k at_ sz tu tg pl = false) :
 Calls Try.prog 10 #[accV nm k at_ sz tu tg pl, .agg #[.int .i64 n.kind, .string n.data, .slice h.A n.ptrs.length h.a, .int .i64 n.size, .int .i64 n.count, .slice h.B n.items.length h.b]] w (NewVal M 0 noneNd false w) := by
 have HOK := Lib.hid (fun W : World => implAccessOk_any nm k at_ sz tu tg pl W hs ht hp)
 rw [hx] at HOK
 unfold accV at HOK ⊢
 have q0 := al_first w (.cells #[.string nm, .int .i64 k, .int .i64 at_, .int .i64 sz, .int .i64 tu, .int .i64 tg, .int .i64 pl] accT)
 have q1 := al_next q0 (.cells #[.int .i64 n.kind, .string n.data, .slice h.A n.ptrs.length h.a, .int .i64 n.size, .int .i64 n.count, .slice h.B n.items.length h.b] nodeT)
 have q2 := al_next q1 (.cells #[.int .i64 0, .int .i64 0, .string { data := #[] }, .slice none 0 0, .int .i64 0, .int .i64 0, .slice none 0 0] valT)
 have r0 := heap_alloc_keep (heap_alloc_keep (heap_alloc_new w (.cells #[.string nm, .int .i64 k, .int .i64 at_, .int .i64 sz, .int .i64 tu, .int .i64 tg, .int .i64 pl] accT)) (.cells #[.int .i64 n.kind, .string n.data, .slice h.A n.ptrs.length h.a, .int .i64 n.size, .int .i64 n.count, .slice h.B n.items.length h.b] nodeT)) (.cells #[.int .i64 0, .int .i64 0, .string { data := #[] }, .slice none 0 0, .int .i64 0, .int .i64 0, .slice none 0 0] valT)
 have r1 := heap_alloc_keep (al_row q0 #[.int .i64 n.kind, .string n.data, .slice h.A n.ptrs.length h.a, .int .i64 n.size, .int .i64 n.count, .slice h.B n.items.length h.b] nodeT) (.cells #[.int .i64 0, .int .i64 0, .string { data := #[] }, .slice none 0 0, .int .i64 0, .int .i64 0, .slice none 0 0] valT)
 have r2 := al_row q1 #[.int .i64 0, .int .i64 0, .string { data := #[] }, .slice none 0 0, .int .i64 0, .int .i64 0, .slice none 0 0] valT
 have HB0 := Lib.hid q2.2
 have R1 := Lib.hid r1
 have R2 := Lib.hid r2
 obtain ⟨a0, a1, a2, a3, a4, a5, a6⟩ := cellsV r0
 clear q2 q1 q0 r0 r1 r2 hn htn hs ht hp hx
 go_enter Try.func10, Try.ntmps10
 go_wp2_with fail
 generalize ((w.alloc (.cells #[.string nm, .int .i64 k, .int .i64 at_, .int .i64 sz, .int .i64 tu, .int .i64 tg, .int .i64 pl] accT)).alloc (.cells #[.int .i64 n.kind, .string n.data, .slice h.A n.ptrs.length h.a, .int .i64 n.size, .int .i64 n.count, .slice h.B n.items.length h.b] nodeT)).alloc (.cells #[.int .i64 0, .int .i64 0, .string { data := #[] }, .slice none 0 0, .int .i64 0, .int .i64 0, .slice none 0 0] valT) = W at *
 clear a0 a1 a2 a3 a4 a5 a6
 refine (HOK.out W).mono ?_
 rintro e w1 ⟨rfl, hb1⟩
 have HB1 := Lib.hid (HB0.out.trans (hb1.mono HB0.out.size))
 have X2 := Lib.hid ((hb1.block _ (row_lt R2.out)).trans R2.out)
 have HB2 := HB1
 have Y2 := X2
 clear hb1 HB1 X2
 obtain ⟨z0, z1, z2, z3, z4, z5, z6⟩ := cellsV Y2.out
 have zf := row_free Y2.out
 go_wp2_with fail
 obtain ⟨wf, hwf, hrw, hbf, -⟩ := finV (R := w.heap.size) (.int .i64 0) (.int .i64 0) (.string ⟨#[]⟩) (.slice none 0 0) (.int .i64 0) (.int .i64 0) (.slice none 0 0) Y2.out HB2.out (by omega)
 rw [hwf]
 obtain ⟨e0, e1, e2, e3, e4, e5, e6⟩ := cellsV hrw
 exact bodyPost_ret (v := .tuple #[numA 0, .bool false]) (by simp [results, Try.results10, go_sem, e0, e1, e2, e3, e4, e5, e6]) rfl (NewVal.none rfl hbf)
theorem acGet_noR (nm : ByteArray) (k at_ sz tu tg pl : Int) (m : Nat) (n : Nd) (h : Hd) (w : World) (S : Nat → Prop) (hs : nm.size ≤ maxLen) (ht : i64b tu) (hp : i64b pl) (hn : NdAt w S m n h) (htn : totN m n ≤ 2000000) (M : Nat) (hx : accB nm k at_ sz tu tg pl = true ∧ isRec n = false) :
 Calls Try.prog 10 #[accV nm k at_ sz tu tg pl, .agg #[.int .i64 n.kind, .string n.data, .slice h.A n.ptrs.length h.a, .int .i64 n.size, .int .i64 n.count, .slice h.B n.items.length h.b]] w (NewVal M 0 noneNd false w) := by
 have HOK := Lib.hid (fun W : World => implAccessOk_any nm k at_ sz tu tg pl W hs ht hp)
 have HRC := Lib.hid (fun (W : World) (hW : Below w.heap.size w W) => isRecord_a m n h W S (hn.below hW) htn)
 rw [hx.1] at HOK
 rw [hx.2] at HRC
 unfold accV at HOK ⊢
 have q0 := al_first w (.cells #[.string nm, .int .i64 k, .int .i64 at_, .int .i64 sz, .int .i64 tu, .int .i64 tg, .int .i64 pl] accT)
 have q1 := al_next q0 (.cells #[.int .i64 n.kind, .string n.data, .slice h.A n.ptrs.length h.a, .int .i64 n.size, .int .i64 n.count, .slice h.B n.items.length h.b] nodeT)
 have q2 := al_next q1 (.cells #[.int .i64 0, .int .i64 0, .string { data := #[] }, .slice none 0 0, .int .i64 0, .int .i64 0, .slice none 0 0] valT)
 have r0 := heap_alloc_keep (heap_alloc_keep (heap_alloc_new w (.cells #[.string nm, .int .i64 k, .int .i64 at_, .int .i64 sz, .int .i64 tu, .int .i64 tg, .int .i64 pl] accT)) (.cells #[.int .i64 n.kind, .string n.data, .slice h.A n.ptrs.length h.a, .int .i64 n.size, .int .i64 n.count, .slice h.B n.items.length h.b] nodeT)) (.cells #[.int .i64 0, .int .i64 0, .string { data := #[] }, .slice none 0 0, .int .i64 0, .int .i64 0, .slice none 0 0] valT)
 have r1 := heap_alloc_keep (al_row q0 #[.int .i64 n.kind, .string n.data, .slice h.A n.ptrs.length h.a, .int .i64 n.size, .int .i64 n.count, .slice h.B n.items.length h.b] nodeT) (.cells #[.int .i64 0, .int .i64 0, .string { data := #[] }, .slice none 0 0, .int .i64 0, .int .i64 0, .slice none 0 0] valT)
 have r2 := al_row q1 #[.int .i64 0, .int .i64 0, .string { data := #[] }, .slice none 0 0, .int .i64 0, .int .i64 0, .slice none 0 0] valT
 have HB0 := Lib.hid q2.2
 have R1 := Lib.hid r1
 have R2 := Lib.hid r2
 obtain ⟨a0, a1, a2, a3, a4, a5, a6⟩ := cellsV r0
 clear q2 q1 q0 r0 r1 r2 hn htn hs ht hp hx
 go_enter Try.func10, Try.ntmps10
 go_wp2_with fail
 generalize ((w.alloc (.cells #[.string nm, .int .i64 k, .int .i64 at_, .int .i64 sz, .int .i64 tu, .int .i64 tg, .int .i64 pl] accT)).alloc (.cells #[.int .i64 n.kind, .string n.data, .slice h.A n.ptrs.length h.a, .int .i64 n.size, .int .i64 n.count, .slice h.B n.items.length h.b] nodeT)).alloc (.cells #[.int .i64 0, .int .i64 0, .string { data := #[] }, .slice none 0 0, .int .i64 0, .int .i64 0, .slice none 0 0] valT) = W at *
 clear a0 a1 a2 a3 a4 a5 a6
 refine (HOK.out W).mono ?_
 rintro e w1 ⟨rfl, hb1⟩
 have HB1 := Lib.hid (HB0.out.trans (hb1.mono HB0.out.size))
 have X2 := Lib.hid ((hb1.block _ (row_lt R2.out)).trans R2.out)
 have X1 := Lib.hid ((hb1.block _ (row_lt R1.out)).trans R1.out)
 clear hb1
 obtain ⟨n0, n1, n2, n3, n4, n5⟩ := cells6 X1.out
 go_wp2_with fail
 clear n0 n1 n2 n3 n4 n5
 refine (HRC.out w1 HB1.out).mono ?_
 rintro e w2 ⟨rfl, hb2⟩
 have HB2 := Lib.hid (HB1.out.trans (hb2.mono HB1.out.size))
 have Y2 := Lib.hid ((hb2.block _ (row_lt X2.out)).trans X2.out)
 clear hb2
 obtain ⟨z0, z1, z2, z3, z4, z5, z6⟩ := cellsV Y2.out
 have zf := row_free Y2.out
 go_wp2_with fail
 obtain ⟨wf, hwf, hrw, hbf, -⟩ := finV (R := w.heap.size) (.int .i64 0) (.int .i64 0) (.string ⟨#[]⟩) (.slice none 0 0) (.int .i64 0) (.int .i64 0) (.slice none 0 0) Y2.out HB2.out (by omega)
 rw [hwf]
 obtain ⟨e0, e1, e2, e3, e4, e5, e6⟩ := cellsV hrw
 exact bodyPost_ret (v := .tuple #[numA 0, .bool false]) (by simp [results, Try.results10, go_sem, e0, e1, e2, e3, e4, e5, e6]) rfl (NewVal.none rfl hbf)
theorem NdAt.noneN (w : World) (S : Nat → Prop) : ∀ m, NdAt w S m noneNd ⟨none, 0, none, 0⟩
 | 0 => ⟨by decide, rfl, rfl⟩
 | m + 1 => ⟨by decide, ⟨by decide, [], rfl, .inl rfl, fun r h => by cases h⟩, ⟨by decide, [], rfl, .inl rfl, fun r h => by cases h⟩⟩
theorem siz_none : sizN noneNd ≤ 2000000 := by decide
theorem NewVal.up {m : Nat} {x : Int} {y : Nd} {b : Bool} {w w' : World} {e : Ending} (h : NewVal m x y b w e w') : NewVal (m + 1) x y b w e w' := by
 obtain ⟨hh, bs, he, ho, hr⟩ := h
 exact ⟨hh, bs, he, ho.succ, hr⟩
theorem implAccessGet_a (nm : ByteArray) (k at_ sz tu tg pl : Int) (m : Nat) (n : Nd) (h : Hd) (w : World) (S : Nat → Prop) (hs : nm.size ≤ maxLen) (ht : i64b tu) (hp : i64b pl) (hn : NdAt w S m n h) (htn : totN m n ≤ 2000000) :
 Calls Try.prog 10 #[accV nm k at_ sz tu tg pl, .agg #[.int .i64 n.kind, .string n.data, .slice h.A n.ptrs.length h.a, .int .i64 n.size, .int .i64 n.count, .slice h.B n.items.length h.b]] w (NewVal (m + 1) (agN nm k at_ sz tu tg pl n) (agY nm k at_ sz tu tg pl n) (acB nm k at_ sz tu tg pl n) w) := by
 by_cases hA : accB nm k at_ sz tu tg pl = true
 case neg =>
  have hA' : accB nm k at_ sz tu tg pl = false := by simpa using hA
  have hB : acB nm k at_ sz tu tg pl n = false := by unfold acB; rw [hA']; rfl
  have e1 : agN nm k at_ sz tu tg pl n = 0 := by unfold agN; rw [hB]; rfl
  have e2 : agY nm k at_ sz tu tg pl n = noneNd := by unfold agY; rw [hB]; rfl
  rw [hB, e1, e2]
  exact acGet_noA nm k at_ sz tu tg pl m n h w S hs ht hp hn htn (m + 1) hA'
 by_cases hR : isRec n = true
 case neg =>
  have hR' : isRec n = false := by simpa using hR
  have hB : acB nm k at_ sz tu tg pl n = false := by
   unfold acB
   rw [hA]
   unfold isRec at hR'
   by_cases hk2 : n.kind = 2
   · simp [hk2]
   · have : nodeOk n = false := by simpa [hk2] using hR'
     rw [this]; rfl
  have e1 : agN nm k at_ sz tu tg pl n = 0 := by unfold agN; rw [hB]; rfl
  have e2 : agY nm k at_ sz tu tg pl n = noneNd := by unfold agY; rw [hB]; rfl
  rw [hB, e1, e2]
  exact acGet_noR nm k at_ sz tu tg pl m n h w S hs ht hp hn htn (m + 1) ⟨hA, hR'⟩
 have hRR := hR
 unfold isRec at hRR
 simp only [Bool.and_eq_true, decide_eq_true_eq] at hRR
 obtain ⟨hk2, hok⟩ := hRR
 obtain ⟨a0, a1, a2, a3, hk, -⟩ := acc_ok hA
 have hdl : n.data.size ≤ maxLen := hn.1
 have hB : acB nm k at_ sz tu tg pl n = (decide (tg < 0) || decide (getI (byL n) tg 2 = pl)) := by
  unfold acB
  rw [hA, hok, decide_eq_true hk2]
  rfl
 have hsz : sizN n ≤ 2000000 := by rw [← totN_siz hn]; exact htn
 by_cases hno : 0 ≤ tg ∧ getI (byL n) tg 2 ≠ pl
 case pos =>
  have hBf : acB nm k at_ sz tu tg pl n = false := by rw [hB, decide_eq_false (by omega), decide_eq_false hno.2]; rfl
  have e1 : agN nm k at_ sz tu tg pl n = 0 := by unfold agN; rw [hBf]; rfl
  have e2 : agY nm k at_ sz tu tg pl n = noneNd := by unfold agY; rw [hBf]; rfl
  rw [hBf, e1, e2]
  refine acGet_told nm k at_ sz tu tg pl m m n h w S 0 noneNd ⟨none, 0, none, 0⟩ false hs ht hp hn htn hA hR (NdAt.noneN w S m) siz_none ?_
  rcases hk with ⟨rfl, -, -⟩ | ⟨rfl, -, -, -⟩ | ⟨rfl, -, -⟩
  · exact fun W hW => (acrOf_1t nm at_ sz tu tg pl W hno.1).mono fun e w' ⟨c, b, he, hx, h1, h2, _, _, hbw⟩ => ⟨c, _, he, hbw, fun V hV => told1_no n h tg pl c V hdl hno.2 ((hV.block _ (row_lt h1)).trans h1) ((hV.block _ (row_lt h2)).trans h2)⟩
  · exact fun W hW => (acrOf_2t nm at_ sz tu tg pl W hno.1).mono fun e w' ⟨c, b, he, hx, h1, h2, _, _, _, hbw⟩ => ⟨c, _, he, hbw, fun V hV => told1_no n h tg pl c V hdl hno.2 ((hV.block _ (row_lt h1)).trans h1) ((hV.block _ (row_lt h2)).trans h2)⟩
  · exact fun W hW => (acrOf_3t nm at_ sz tu tg pl W hno.1).mono fun e w' ⟨c, b, he, hx, h1, h2, _, hbw⟩ => ⟨c, _, he, hbw, fun V hV => told1_no n h tg pl c V hdl hno.2 ((hV.block _ (row_lt h1)).trans h1) ((hV.block _ (row_lt h2)).trans h2)⟩
 have hBt : acB nm k at_ sz tu tg pl n = true := by
  rw [hB]
  by_cases e : tg < 0
  · rw [decide_eq_true e]; rfl
  · rw [decide_eq_false e, Bool.false_or, decide_eq_true_eq]
    exact Classical.byContradiction fun g => hno ⟨by omega, g⟩
 have e1 : agN nm k at_ sz tu tg pl n = acNum k at_ sz tu n := by unfold agN; rw [hBt]; rfl
 have e2 : agY nm k at_ sz tu tg pl n = acNode k at_ n := by unfold agY; rw [hBt]; rfl
 have hg : ¬ tg < 0 → 0 ≤ tg ∧ getI (byL n) tg 2 = pl := fun e => ⟨by omega, Classical.byContradiction fun g => hno ⟨by omega, g⟩⟩
 rw [hBt, e1, e2]
 rcases hk with ⟨rfl, -, -⟩ | ⟨rfl, -, -, -⟩ | ⟨rfl, -, -⟩
 · have e3 : acNum 1 at_ sz tu n = xorI (bitI (byL n) at_) tu := rfl
   have e4 : acNode 1 at_ n = noneNd := rfl
   rw [e3, e4]
   by_cases e : tg < 0
   · exact acGet_bit nm 1 at_ sz tu tg pl m m n h w S _ noneNd ⟨none, 0, none, 0⟩ true hs ht hp hn htn hA hR (NdAt.noneN w S m) siz_none fun W hW => (acrOf_1n nm at_ sz tu tg pl W e).mono fun e w' ⟨b, he, p0, p1, hbw⟩ => ⟨b, _, he, hbw, fun V hV => bitGet_a n h at_ tu b V hdl ((hV.block _ (row_lt p0)).trans p0) ((hV.block _ (row_lt p1)).trans p1)⟩
   · obtain ⟨h0, hgv⟩ := hg e
     exact acGet_told nm 1 at_ sz tu tg pl m m n h w S _ noneNd ⟨none, 0, none, 0⟩ true hs ht hp hn htn hA hR (NdAt.noneN w S m) siz_none fun W hW => (acrOf_1t nm at_ sz tu tg pl W h0).mono fun e w' ⟨c, b, he, hx, h1, h2, p0, p1, hbw⟩ => ⟨c, _, he, hbw, fun V hV => told1_bit n h tg pl c V hdl b (bit2V b) _ noneNd ⟨none, 0, none, 0⟩ hgv ((hV.block _ (row_lt hx)).trans hx) (fun U hU => bitGet_a n h at_ tu b U hdl ((hU.block _ (row_lt ((hV.block _ (row_lt p0)).trans p0))).trans ((hV.block _ (row_lt p0)).trans p0)) ((hU.block _ (row_lt ((hV.block _ (row_lt p1)).trans p1))).trans ((hV.block _ (row_lt p1)).trans p1))) ((hV.block _ (row_lt h1)).trans h1) ((hV.block _ (row_lt h2)).trans h2)⟩
 · have e3 : acNum 2 at_ sz tu n = xorI (getI (byL n) at_ sz) tu := rfl
   have e4 : acNode 2 at_ n = noneNd := rfl
   rw [e3, e4]
   by_cases e : tg < 0
   · exact acGet_num nm 2 at_ sz tu tg pl m m n h w S _ noneNd ⟨none, 0, none, 0⟩ true hs ht hp hn htn hA hR (NdAt.noneN w S m) siz_none fun W hW => (acrOf_2n nm at_ sz tu tg pl W e).mono fun e w' ⟨b, he, p0, p1, p2, hbw⟩ => ⟨b, _, he, hbw, fun V hV => numGet_a n h at_ sz tu b V hdl ((hV.block _ (row_lt p0)).trans p0) ((hV.block _ (row_lt p1)).trans p1) ((hV.block _ (row_lt p2)).trans p2)⟩
   · obtain ⟨h0, hgv⟩ := hg e
     exact acGet_told nm 2 at_ sz tu tg pl m m n h w S _ noneNd ⟨none, 0, none, 0⟩ true hs ht hp hn htn hA hR (NdAt.noneN w S m) siz_none fun W hW => (acrOf_2t nm at_ sz tu tg pl W h0).mono fun e w' ⟨c, b, he, hx, h1, h2, p0, p1, p2, hbw⟩ => ⟨c, _, he, hbw, fun V hV => told1_num n h tg pl c V hdl b (num2V b) _ noneNd ⟨none, 0, none, 0⟩ hgv ((hV.block _ (row_lt hx)).trans hx) (fun U hU => numGet_a n h at_ sz tu b U hdl ((hU.block _ (row_lt ((hV.block _ (row_lt p0)).trans p0))).trans ((hV.block _ (row_lt p0)).trans p0)) ((hU.block _ (row_lt ((hV.block _ (row_lt p1)).trans p1))).trans ((hV.block _ (row_lt p1)).trans p1)) ((hU.block _ (row_lt ((hV.block _ (row_lt p2)).trans p2))).trans ((hV.block _ (row_lt p2)).trans p2))) ((hV.block _ (row_lt h1)).trans h1) ((hV.block _ (row_lt h2)).trans h2)⟩
 · have e3 : acNum 3 at_ sz tu n = 0 := rfl
   rw [e3]
   have main : ∀ (j : Nat) (y : Nd) (hy : Hd), NdAt w S j y hy → sizN y ≤ 2000000 → (∀ V : World, Below w.heap.size w V → Calls Try.prog 69 #[.agg #[.int .i64 n.kind, .string n.data, .slice h.A n.ptrs.length h.a, .int .i64 n.size, .int .i64 n.count, .slice h.B n.items.length h.b], .int .i64 at_] V fun e w' => e = .returned (valV 0 y hy) ∧ Below V.heap.size V w') →
    Calls Try.prog 10 #[accV nm 3 at_ sz tu tg pl, .agg #[.int .i64 n.kind, .string n.data, .slice h.A n.ptrs.length h.a, .int .i64 n.size, .int .i64 n.count, .slice h.B n.items.length h.b]] w (NewVal (j + 1) 0 y true w) := by
    intro j y hy hny hyz HGN
    by_cases e : tg < 0
    · exact acGet_point nm 3 at_ sz tu tg pl m j n h w S _ y hy true hs ht hp hn htn hA hR hny hyz fun W hW => (acrOf_3n nm at_ sz tu tg pl W e).mono fun e w' ⟨b, he, p0, hbw⟩ => ⟨b, _, he, hbw, fun V hV => pointGet_a n h at_ b V 0 y hy ((hV.block _ (row_lt p0)).trans p0) fun U hU => HGN U ((hW.trans (hbw.mono hW.size)).trans (hV.trans (hU.mono hV.size) |>.mono (hW.trans (hbw.mono hW.size)).size))⟩
    · obtain ⟨h0, hgv⟩ := hg e
      exact acGet_told nm 3 at_ sz tu tg pl m j n h w S _ y hy true hs ht hp hn htn hA hR hny hyz fun W hW => (acrOf_3t nm at_ sz tu tg pl W h0).mono fun e w' ⟨c, b, he, hx, h1, h2, p0, hbw⟩ => ⟨c, _, he, hbw, fun V hV => told1_point n h tg pl c V hdl b (point2V b) _ y hy hgv ((hV.block _ (row_lt hx)).trans hx) (fun U hU => pointGet_a n h at_ b U 0 y hy ((hU.block _ (row_lt ((hV.block _ (row_lt p0)).trans p0))).trans ((hV.block _ (row_lt p0)).trans p0)) fun X hX => HGN X ((hW.trans (hbw.mono hW.size)).trans (hV.trans (hU.trans (hX.mono hU.size) |>.mono hV.size) |>.mono (hW.trans (hbw.mono hW.size)).size))) ((hV.block _ (row_lt h1)).trans h1) ((hV.block _ (row_lt h2)).trans h2)⟩
   by_cases hlt : at_ < n.ptrs.length
   · obtain ⟨i, rfl⟩ := Int.eq_ofNat_of_zero_le a0
     have hi : i < n.ptrs.length := by omega
     obtain ⟨qA, qa, qB, qb⟩ := h
     obtain ⟨j, rfl⟩ := NdsAt.pred hn.2.1 hi
     obtain ⟨x, hd, hxe, hc, hne⟩ := NdsAt.at_ hn.2.1 hi
     have hxe' : qA = some x := hxe
     subst hxe'
     have e4 : acNode 3 (i : Int) n = n.ptrs[i] := by
      show (n.ptrs[i]?).getD noneNd = _
      rw [List.getElem?_eq_getElem hi]
      rfl
     rw [e4]
     have hmx : n.ptrs.length ≤ maxLen := by have := ptrs_len hn; have := tot_ptrs hn; unfold ptrsL at *; simp at *; unfold maxLen; omega
     have hsy : sizN n.ptrs[i] ≤ 2000000 := by
      have h1 := sizL_at hi
      have h2 := sizN_eq n
      omega
     exact (main j _ hd hne hsy fun V hV => getNode_in n x qa qB qb i n.ptrs[i] hd V hi hmx (hc.block (hV.block _ hc.lt))).mono fun _ _ h => h.up
   · have e4 : acNode 3 at_ n = noneNd := by
      show (n.ptrs[at_.toNat]?).getD noneNd = _
      rw [List.getElem?_eq_none (by omega)]
      rfl
     rw [e4]
     have hmx : n.ptrs.length ≤ maxLen := by have := ptrs_len hn; have := tot_ptrs hn; unfold ptrsL at *; simp at *; unfold maxLen; omega
     exact main m noneNd ⟨none, 0, none, 0⟩ (NdAt.noneN w S m) siz_none fun V hV => getNode_out n h at_ V a0 (by omega) hmx
end Go.Proofs.Ytfnecflkahmjoaa
