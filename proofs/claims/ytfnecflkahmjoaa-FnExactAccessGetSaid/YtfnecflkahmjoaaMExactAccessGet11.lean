/- Texts of the proof of the law FnExactAccessGet, side by side: part 11. -/
import Derived.Test.YtfnecflkahmjoaaMExactAccessGet10
set_option maxHeartbeats 8000000
set_option maxRecDepth 100000
namespace Go.Proofs.Ytfnecflkahmjoaa
open Go.RowKit Go.Deep
theorem acGet_bit (nm : ByteArray) (k at_ sz tu tg pl : Int) (m j : Nat) (n : Nd) (h : Hd) (w : World) (S : Nat → Prop) (x : Int) (y : Nd) (hy : Hd) (ok : Bool) (hs : nm.size ≤ maxLen) (ht : i64b tu) (hp : i64b pl) (hn : NdAt w S m n h) (htn : totN m n ≤ 2000000) (hA : accB nm k at_ sz tu tg pl = true) (hR : isRec n = true) (hny : NdAt w S j y hy) (hyz : sizN y ≤ 2000000)
 (HAC : ∀ W : World, Below w.heap.size w W → Calls Try.prog 28 #[accV nm k at_ sz tu tg pl] W fun e w' => ∃ b g, e = .returned (.agg #[bit1V b, g]) ∧ Below W.heap.size W w' ∧ ∀ V : World, Below w'.heap.size w' V → Calls Try.prog 71 #[.agg #[.int .i64 n.kind, .string n.data, .slice h.A n.ptrs.length h.a, .int .i64 n.size, .int .i64 n.count, .slice h.B n.items.length h.b], .pointer (some ⟨b, 0, none⟩), .pointer (some ⟨b + 1, 0, none⟩)] V (GetQ (valV x y hy) ok V)) :
 Calls Try.prog 10 #[accV nm k at_ sz tu tg pl, .agg #[.int .i64 n.kind, .string n.data, .slice h.A n.ptrs.length h.a, .int .i64 n.size, .int .i64 n.count, .slice h.B n.items.length h.b]] w (NewVal (j + 1) x y ok w) := by
 have HOK := Lib.hid (fun W : World => implAccessOk_any nm k at_ sz tu tg pl W hs ht hp)
 have HRC := Lib.hid (fun (W : World) (hW : Below w.heap.size w W) => isRecord_a m n h W S (hn.below hW) htn)
 have HCP := Lib.hid (fun (W : World) (hW : Below w.heap.size w W) => ciN_any j y hy W S (hny.below hW) hyz)
 have HAO := Lib.hid HAC
 have HFL := Lib.hid fld_acr
 rw [hA] at HOK
 rw [hR] at HRC
 unfold accV at HOK HAO ⊢
 unfold GetQ at HAO
 unfold NewO at HCP
 have q0 := al_first w (.cells #[.string nm, .int .i64 k, .int .i64 at_, .int .i64 sz, .int .i64 tu, .int .i64 tg, .int .i64 pl] accT)
 have q1 := al_next q0 (.cells #[.int .i64 n.kind, .string n.data, .slice h.A n.ptrs.length h.a, .int .i64 n.size, .int .i64 n.count, .slice h.B n.items.length h.b] nodeT)
 have q2 := al_next q1 (.cells #[.int .i64 0, .int .i64 0, .string { data := #[] }, .slice none 0 0, .int .i64 0, .int .i64 0, .slice none 0 0] valT)
 have r0 := heap_alloc_keep (heap_alloc_keep (heap_alloc_new w (.cells #[.string nm, .int .i64 k, .int .i64 at_, .int .i64 sz, .int .i64 tu, .int .i64 tg, .int .i64 pl] accT)) (.cells #[.int .i64 n.kind, .string n.data, .slice h.A n.ptrs.length h.a, .int .i64 n.size, .int .i64 n.count, .slice h.B n.items.length h.b] nodeT)) (.cells #[.int .i64 0, .int .i64 0, .string { data := #[] }, .slice none 0 0, .int .i64 0, .int .i64 0, .slice none 0 0] valT)
 have r1 := heap_alloc_keep (al_row q0 #[.int .i64 n.kind, .string n.data, .slice h.A n.ptrs.length h.a, .int .i64 n.size, .int .i64 n.count, .slice h.B n.items.length h.b] nodeT) (.cells #[.int .i64 0, .int .i64 0, .string { data := #[] }, .slice none 0 0, .int .i64 0, .int .i64 0, .slice none 0 0] valT)
 have r2 := al_row q1 #[.int .i64 0, .int .i64 0, .string { data := #[] }, .slice none 0 0, .int .i64 0, .int .i64 0, .slice none 0 0] valT
 have HB0 := Lib.hid q2.2
 have R0 := Lib.hid r0
 have R1 := Lib.hid r1
 have R2 := Lib.hid r2
 obtain ⟨a0, a1, a2, a3, a4, a5, a6⟩ := cellsV r0
 clear q2 q1 q0 r0 r1 r2 hn htn hA hR hny hyz HAC hs ht hp
 go_enter Try.func10, Try.ntmps10
 go_wp2_with fail
 generalize ((w.alloc (.cells #[.string nm, .int .i64 k, .int .i64 at_, .int .i64 sz, .int .i64 tu, .int .i64 tg, .int .i64 pl] accT)).alloc (.cells #[.int .i64 n.kind, .string n.data, .slice h.A n.ptrs.length h.a, .int .i64 n.size, .int .i64 n.count, .slice h.B n.items.length h.b] nodeT)).alloc (.cells #[.int .i64 0, .int .i64 0, .string { data := #[] }, .slice none 0 0, .int .i64 0, .int .i64 0, .slice none 0 0] valT) = W at *
 clear a0 a1 a2 a3 a4 a5 a6
 refine (HOK.out W).mono ?_
 rintro e w1 ⟨rfl, hb1⟩
 have HB1 := Lib.hid (HB0.out.trans (hb1.mono HB0.out.size))
 have X0 := Lib.hid ((hb1.block _ (row_lt R0.out)).trans R0.out)
 have X1 := Lib.hid ((hb1.block _ (row_lt R1.out)).trans R1.out)
 have X2 := Lib.hid ((hb1.block _ (row_lt R2.out)).trans R2.out)
 clear hb1
 obtain ⟨n0, n1, n2, n3, n4, n5⟩ := cells6 X1.out
 go_wp2_with fail
 clear n0 n1 n2 n3 n4 n5
 refine (HRC.out w1 HB1.out).mono ?_
 rintro e w2 ⟨rfl, hb2⟩
 have HB2 := Lib.hid (HB1.out.trans (hb2.mono HB1.out.size))
 have Y0 := Lib.hid ((hb2.block _ (row_lt X0.out)).trans X0.out)
 have Y1 := Lib.hid ((hb2.block _ (row_lt X1.out)).trans X1.out)
 have Y2 := Lib.hid ((hb2.block _ (row_lt X2.out)).trans X2.out)
 clear hb2
 go_wp2_with fail
 have HDR : Hid (Below w2.heap.size w2 w2.drew) := Lib.hid ⟨rfl, rfl, rfl, Nat.le_refl _, fun _ _ => rfl⟩
 have HBD := Lib.hid (HB2.out.trans (HDR.out.mono HB2.out.size))
 refine wp_region_held_drew (S := (fun V => V.heap[w.heap.size]? = some (.cells #[.string nm, .int .i64 k, .int .i64 at_, .int .i64 sz, .int .i64 tu, .int .i64 tg, .int .i64 pl] accT (0, 0)) ∧ V.heap[w.heap.size + 1]? = some (.cells #[.int .i64 n.kind, .string n.data, .slice h.A n.ptrs.length h.a, .int .i64 n.size, .int .i64 n.count, .slice h.B n.items.length h.b] nodeT (0, 0)))) (by kernel_rfl) ?_ (fun hH0 => ?_)
 · exact ⟨Y0.out, Y1.out⟩
 have hC := HDR.out
 have hHo := hH0
 clear hH0
 have u0 := Y0.out
 have u1 := Y1.out
 refine wpAnyH_take (i := 0) (v := .agg #[.string nm, .int .i64 k, .int .i64 at_, .int .i64 sz, .int .i64 tu, .int .i64 tg, .int .i64 pl]) rfl (by kernel_rfl) (by kernel_rfl) (by kernel_rfl) (fun _ _ _ h => h) (Or.inl ⟨by rfl, ?_⟩) (by assumption) ?_
 · intro w hSw
   obtain ⟨s0, s1, s2, s3, s4, s5, s6⟩ := cellsV hSw.1
   go_simp
 try simp only [List.getElem_toArray, List.getElem_cons_succ, List.getElem_cons_zero, Act.put, List.setIfInBounds_toArray, List.set_cons_zero, List.set_cons_succ]
 refine wpAnyH_take (i := 3) (v := .agg #[.int .i64 n.kind, .string n.data, .slice h.A n.ptrs.length h.a, .int .i64 n.size, .int .i64 n.count, .slice h.B n.items.length h.b]) rfl (by kernel_rfl) (by kernel_rfl) (by kernel_rfl) (fun _ _ _ h => h) (Or.inl ⟨by rfl, ?_⟩) (by assumption) ?_
 · intro w hSw
   obtain ⟨s0, s1, s2, s3, s4, s5⟩ := cells6 hSw.2
   go_simp
 try simp only [List.getElem_toArray, List.getElem_cons_succ, List.getElem_cons_zero, Act.put, List.setIfInBounds_toArray, List.set_cons_zero, List.set_cons_succ]
 refine wpAnyH_ready (rs := [1, 8]) (by kernel_rfl) (by simp) ?_
 refine AllReadyH.cons rfl (fun K hK => ?_) (AllReadyH.cons rfl (fun K hK => ?_) AllReadyH.nil)
 · go_simp
   go_at_call 28
   refine (HAO.out _ (HB2.out.trans (hC.mono HB2.out.size))).mono ?_
   rintro e w3 ⟨b, g, rfl, hb3, HG⟩
   have hG := Lib.hid HG
   clear HG
   have hC' := hC.trans (hb3.mono hC.size)
   have hcs := hb3.size
   have v0 := (hb3.block _ (row_lt u0)).trans u0
   have v1 := (hb3.block _ (row_lt u1)).trans u1
   clear hb3 hC u0 u1
   go_wp2_with fail
   refine hK.out _ _ ⟨v0, v1⟩ (fun hHn => ?_)
   clear hK K hHo
   have hHo := hHn
   clear hHn
   have u0 := v0
   have u1 := v1
   have hC := hC'
   clear v0 v1 hC'
   try simp only [List.getElem_toArray, List.getElem_cons_succ, List.getElem_cons_zero, Act.put, List.setIfInBounds_toArray, List.set_cons_zero, List.set_cons_succ]
   have HFL1 := HFL.out
   refine wpAnyH_take (i := 2) (v := ?_) rfl (by kernel_rfl) (by kernel_rfl) (by kernel_rfl) (fun _ _ _ h => h) (Or.inl ⟨by rfl, ?_⟩) (by assumption) ?_
   rotate_left
   · intro w hSw
     (try dsimp only at hSw)
     go_simp
     try with_reducible rfl
   try simp only [List.getElem_toArray, List.getElem_cons_succ, List.getElem_cons_zero, Act.put, List.setIfInBounds_toArray, List.set_cons_zero, List.set_cons_succ]
   clear HFL1
   unfold bit1V
   refine wpAnyH_ready (rs := [4, 8]) (by kernel_rfl) (by simp) ?_
   refine AllReadyH.cons rfl (fun K hK => ?_) (AllReadyH.cons rfl (fun K hK => ?_) AllReadyH.nil)
   · go_simp
     go_at_call 71
     refine (hG.out _ (Below.refl _ _)).mono ?_
     rintro e w4 ⟨rfl, hb4⟩
     have hC' := hC.trans (hb4.mono hC.size)
     have v0 := (hb4.block _ (row_lt u0)).trans u0
     have v1 := (hb4.block _ (row_lt u1)).trans u1
     clear hb4 hC u0 u1 hG
     go_wp2_with fail
     refine hK.out _ _ ⟨v0, v1⟩ (fun hHn => ?_)
     clear hK K hHo
     have hHo := hHn
     clear hHn
     have u0 := v0
     have u1 := v1
     have hC := hC'
     clear v0 v1 hC'
     try simp only [List.getElem_toArray, List.getElem_cons_succ, List.getElem_cons_zero, Act.put, List.setIfInBounds_toArray, List.set_cons_zero, List.set_cons_succ]
     refine wpAnyH_take (i := 5) (v := ?_) rfl (by kernel_rfl) (by kernel_rfl) (by kernel_rfl) (fun _ _ _ h => h) (Or.inl ⟨by rfl, ?_⟩) (by assumption) ?_
     rotate_left
     · intro w hSw
       (try dsimp only at hSw)
       go_simp
       try with_reducible rfl
     try simp only [List.getElem_toArray, List.getElem_cons_succ, List.getElem_cons_zero, Act.put, List.setIfInBounds_toArray, List.set_cons_zero, List.set_cons_succ]
     refine wpAnyH_take (i := 6) (v := ?_) rfl (by kernel_rfl) (by kernel_rfl) (by kernel_rfl) (fun _ _ _ h => h) (Or.inl ⟨by rfl, ?_⟩) (by assumption) ?_
     rotate_left
     · intro w hSw
       (try dsimp only at hSw)
       go_simp
       try with_reducible rfl
     try simp only [List.getElem_toArray, List.getElem_cons_succ, List.getElem_cons_zero, Act.put, List.setIfInBounds_toArray, List.set_cons_zero, List.set_cons_succ]
     refine wpAnyH_take (i := 7) (v := ?_) rfl (by kernel_rfl) (by kernel_rfl) (by kernel_rfl) (fun _ _ _ h => h) (Or.inl ⟨by rfl, ?_⟩) (by assumption) ?_
     rotate_left
     · intro w hSw
       (try dsimp only at hSw)
       go_simp
       try with_reducible rfl
     try simp only [List.getElem_toArray, List.getElem_cons_succ, List.getElem_cons_zero, Act.put, List.setIfInBounds_toArray, List.set_cons_zero, List.set_cons_succ]
     refine wpAnyH_ready (rs := [8]) (by kernel_rfl) (by simp) ?_
     refine AllReadyH.cons rfl (fun K hK => ?_) AllReadyH.nil
     go_simp
     have hba : Below w4.heap.size w4 ((w4.alloc (.cells #[.int .i64 0, .int .i64 0, .string { data := #[] }, .slice none 0 0, .int .i64 0, .int .i64 0, .slice none 0 0] valT))) := (Below.refl w4.heap.size w4).alloc (Nat.le_refl _) (.cells #[.int .i64 0, .int .i64 0, .string { data := #[] }, .slice none 0 0, .int .i64 0, .int .i64 0, .slice none 0 0] valT)
     have hC' : Below w2.heap.size w2 ((w4.alloc (.cells #[.int .i64 0, .int .i64 0, .string { data := #[] }, .slice none 0 0, .int .i64 0, .int .i64 0, .slice none 0 0] valT))) := hC.trans (hba.mono hC.size)
     have ub : ((w4.alloc (.cells #[.int .i64 0, .int .i64 0, .string { data := #[] }, .slice none 0 0, .int .i64 0, .int .i64 0, .slice none 0 0] valT))).heap[w4.heap.size]? = some (.cells #[.int .i64 0, .int .i64 0, .string { data := #[] }, .slice none 0 0, .int .i64 0, .int .i64 0, .slice none 0 0] valT (0, 0)) := heap_alloc_new w4 (.cells #[.int .i64 0, .int .i64 0, .string { data := #[] }, .slice none 0 0, .int .i64 0, .int .i64 0, .slice none 0 0] valT)
     have v0 := (hba.block _ (row_lt u0)).trans u0
     have v1 := (hba.block _ (row_lt u1)).trans u1
     obtain ⟨vb, hvbe⟩ : ∃ vb, vb = w4.heap.size := ⟨_, rfl⟩
     have hvb : w2.heap.size ≤ vb := by rw [hvbe]; exact hC.size
     clear hba hC u0 u1
     rw [← hvbe] at ub ⊢
     clear hvbe
     generalize ((w4.alloc (.cells #[.int .i64 0, .int .i64 0, .string { data := #[] }, .slice none 0 0, .int .i64 0, .int .i64 0, .slice none 0 0] valT))) = wb at *
     refine hK.out _ _ ⟨v0, v1⟩ (fun hHn => ?_)
     clear hK K hHo
     have hHo := hHn
     clear hHn
     have u0 := v0
     have u1 := v1
     have hC := hC'
     clear v0 v1 hC'
     try simp only [List.getElem_toArray, List.getElem_cons_succ, List.getElem_cons_zero, Act.put, List.setIfInBounds_toArray, List.set_cons_zero, List.set_cons_succ]
     refine wpAnyH_ready (rs := [9]) (by kernel_rfl) (by simp) ?_
     refine AllReadyH.cons rfl (fun K hK => ?_) AllReadyH.nil
     obtain ⟨z0, z1, z2, z3, z4, z5, z6⟩ := cellsV ub
     have zf := row_free ub
     go_simp
     obtain ⟨wf, hwf, hrw, hbf, hkf⟩ := finV (w := w2) (R := w2.heap.size) (.int .i64 x) (.int .i64 y.kind) (.string y.data) (.slice hy.A y.ptrs.length hy.a) (.int .i64 y.size) (.int .i64 y.count) (.slice hy.B y.items.length hy.b) ub hC hvb
     have HWF := Lib.hid hwf
     have hlb := row_lt Y1.out
     have v0 := (hkf _ (by omega)).trans u0
     have v1 := (hkf _ (by omega)).trans u1
     clear hwf z0 z1 z2 z3 z4 z5 z6 zf ub hC u0 u1 hkf
     rw [HWF.out]
     refine hK.out _ _ ⟨v0, v1⟩ (fun hHn => ?_)
     clear hK K hHo HWF
     try simp only [List.getElem_toArray, List.getElem_cons_succ, List.getElem_cons_zero, Act.put, List.setIfInBounds_toArray, List.set_cons_zero, List.set_cons_succ]
     have hHo := hHn
     clear hHn
     refine wpAnyH_take (i := 10) (v := ?_) rfl (by kernel_rfl) (by kernel_rfl) (by kernel_rfl) (fun _ _ _ h => h) (Or.inl ⟨by rfl, ?_⟩) (by assumption) ?_
     rotate_left
     · intro w hSw
       (try dsimp only at hSw)
       go_simp
       try with_reducible rfl
     try simp only [List.getElem_toArray, List.getElem_cons_succ, List.getElem_cons_zero, Act.put, List.setIfInBounds_toArray, List.set_cons_zero, List.set_cons_succ]
     refine wpAnyH_done (by kernel_rfl) ?_ _
     clear hHo v0 v1
     obtain ⟨z0, z1, z2, z3, z4, z5, z6⟩ := cellsV hrw
     have hlv := row_lt hrw
     have HBV := Lib.hid (HB2.out.trans (hbf.mono HB2.out.size))
     have HRW := Lib.hid hrw
     have HZ2 := Lib.hid ((hbf.block _ (row_lt Y2.out)).trans Y2.out)
     have hly := row_lt Y2.out
     clear hbf hrw
     go_wp2_with fail
     clear z0 z1 z2 z3 z4 z5 z6
     refine (HCP.out _ HBV.out).mono ?_
     rintro e w5 ⟨h5, bs, rfl, ho, hd, hg, hb5⟩
     have hr5 := (hb5.block _ hlv).trans HRW.out
     have HZ5 := Lib.hid ((hb5.block _ (row_lt HZ2.out)).trans HZ2.out)
     have HB5 := Lib.hid (HBV.out.trans (hb5.mono HBV.out.size))
     have HR5 := Lib.hid hr5
     have HO := Lib.hid ho
     have HG := Lib.hid (And.intro hd hg)
     obtain ⟨z0, z1, z2, z3, z4, z5, z6⟩ := cellsV hr5
     have zf := row_free hr5
     obtain ⟨w6, hw6, hrw6, hbf6, hkf6⟩ := finW (w := w) (R := w.heap.size) (.int .i64 y.kind) (.string y.data) (.slice h5.A y.ptrs.length h5.a) (.int .i64 y.size) (.int .i64 y.count) (.slice h5.B y.items.length h5.b) HR5.out HB5.out (by have := HB2.out.size; omega)
     have hz6 := (hkf6 _ (by omega)).trans HZ5.out
     obtain ⟨f0, f1, f2, f3, f4, f5, f6⟩ := cellsV hrw6
     obtain ⟨g0, g1, g2, g3, g4, g5, g6⟩ := cellsV hz6
     have gf := row_free hz6
     have HW6 := Lib.hid hw6
     have HBF6 := Lib.hid hbf6
     have HK6 := Lib.hid hkf6
     have HZ6 := Lib.hid hz6
     clear hbf6 hkf6 hz6 hb5 ho hd hg hr5
     go_wp2_with (fail)
     obtain ⟨w7, hw7, hrw7, hbf7, hkf7⟩ := finV (w := w) (R := w.heap.size) (.int .i64 x) (.int .i64 y.kind) (.string y.data) (.slice h5.A y.ptrs.length h5.a) (.int .i64 y.size) (.int .i64 y.count) (.slice h5.B y.items.length h5.b) HZ6.out HBF6.out (by omega)
     try rw [hw7]
     obtain ⟨e0, e1, e2, e3, e4, e5, e6⟩ := cellsV hrw7
     exact bodyPost_ret (v := .tuple #[valV x y h5, .bool ok]) (by simp [results, Try.results10, go_sem, e0, e1, e2, e3, e4, e5, e6]) rfl ⟨h5, bs, rfl, HO.out.frame (fun b hb => (hkf7 _ (by have := HG.out.2 b hb; omega)).trans (HK6.out _ (by have := HG.out.2 b hb; omega))), HG.out.1, fun b hb => by have := HG.out.2 b hb; have := HBV.out.size; omega, hbf7⟩
   · have hG2 := (Below.refl w3.heap.size w3).alloc (Nat.le_refl _) (.cells #[.int .i64 0, .int .i64 0, .string { data := #[] }, .slice none 0 0, .int .i64 0, .int .i64 0, .slice none 0 0] valT)
     go_simp
     have hba : Below w3.heap.size w3 ((w3.alloc (.cells #[.int .i64 0, .int .i64 0, .string { data := #[] }, .slice none 0 0, .int .i64 0, .int .i64 0, .slice none 0 0] valT))) := (Below.refl w3.heap.size w3).alloc (Nat.le_refl _) (.cells #[.int .i64 0, .int .i64 0, .string { data := #[] }, .slice none 0 0, .int .i64 0, .int .i64 0, .slice none 0 0] valT)
     have hC' : Below w2.heap.size w2 ((w3.alloc (.cells #[.int .i64 0, .int .i64 0, .string { data := #[] }, .slice none 0 0, .int .i64 0, .int .i64 0, .slice none 0 0] valT))) := hC.trans (hba.mono hC.size)
     have ub : ((w3.alloc (.cells #[.int .i64 0, .int .i64 0, .string { data := #[] }, .slice none 0 0, .int .i64 0, .int .i64 0, .slice none 0 0] valT))).heap[w3.heap.size]? = some (.cells #[.int .i64 0, .int .i64 0, .string { data := #[] }, .slice none 0 0, .int .i64 0, .int .i64 0, .slice none 0 0] valT (0, 0)) := heap_alloc_new w3 (.cells #[.int .i64 0, .int .i64 0, .string { data := #[] }, .slice none 0 0, .int .i64 0, .int .i64 0, .slice none 0 0] valT)
     have v0 := (hba.block _ (row_lt u0)).trans u0
     have v1 := (hba.block _ (row_lt u1)).trans u1
     obtain ⟨vb, hvbe⟩ : ∃ vb, vb = w3.heap.size := ⟨_, rfl⟩
     have hvb : w2.heap.size ≤ vb := by rw [hvbe]; exact hC.size
     clear hba hC u0 u1
     rw [← hvbe] at ub ⊢
     clear hvbe
     generalize ((w3.alloc (.cells #[.int .i64 0, .int .i64 0, .string { data := #[] }, .slice none 0 0, .int .i64 0, .int .i64 0, .slice none 0 0] valT))) = wa at *
     refine hK.out _ _ ⟨v0, v1⟩ (fun hHn => ?_)
     clear hK K hHo
     have hHo := hHn
     clear hHn
     have u0 := v0
     have u1 := v1
     have hC := hC'
     clear v0 v1 hC'
     try simp only [List.getElem_toArray, List.getElem_cons_succ, List.getElem_cons_zero, Act.put, List.setIfInBounds_toArray, List.set_cons_zero, List.set_cons_succ]
     refine wpAnyH_ready (rs := [4]) (by kernel_rfl) (by simp) ?_
     refine AllReadyH.cons rfl (fun K hK => ?_) AllReadyH.nil
     go_simp
     go_at_call 71
     refine (hG.out _ hG2).mono ?_
     rintro e w4 ⟨rfl, hb4⟩
     have hC' := hC.trans (hb4.mono hC.size)
     have v0 := (hb4.block _ (row_lt u0)).trans u0
     have v1 := (hb4.block _ (row_lt u1)).trans u1
     have wb := (hb4.block _ (row_lt ub)).trans ub
     clear ub
     have ub := wb
     clear wb
     clear hb4 hC u0 u1 hG
     go_wp2_with fail
     refine hK.out _ _ ⟨v0, v1⟩ (fun hHn => ?_)
     clear hK K hHo
     have hHo := hHn
     clear hHn
     have u0 := v0
     have u1 := v1
     have hC := hC'
     clear v0 v1 hC'
     try simp only [List.getElem_toArray, List.getElem_cons_succ, List.getElem_cons_zero, Act.put, List.setIfInBounds_toArray, List.set_cons_zero, List.set_cons_succ]
     refine wpAnyH_take (i := 5) (v := ?_) rfl (by kernel_rfl) (by kernel_rfl) (by kernel_rfl) (fun _ _ _ h => h) (Or.inl ⟨by rfl, ?_⟩) (by assumption) ?_
     rotate_left
     · intro w hSw
       (try dsimp only at hSw)
       go_simp
       try with_reducible rfl
     try simp only [List.getElem_toArray, List.getElem_cons_succ, List.getElem_cons_zero, Act.put, List.setIfInBounds_toArray, List.set_cons_zero, List.set_cons_succ]
     refine wpAnyH_take (i := 6) (v := ?_) rfl (by kernel_rfl) (by kernel_rfl) (by kernel_rfl) (fun _ _ _ h => h) (Or.inl ⟨by rfl, ?_⟩) (by assumption) ?_
     rotate_left
     · intro w hSw
       (try dsimp only at hSw)
       go_simp
       try with_reducible rfl
     try simp only [List.getElem_toArray, List.getElem_cons_succ, List.getElem_cons_zero, Act.put, List.setIfInBounds_toArray, List.set_cons_zero, List.set_cons_succ]
     refine wpAnyH_take (i := 7) (v := ?_) rfl (by kernel_rfl) (by kernel_rfl) (by kernel_rfl) (fun _ _ _ h => h) (Or.inl ⟨by rfl, ?_⟩) (by assumption) ?_
     rotate_left
     · intro w hSw
       (try dsimp only at hSw)
       go_simp
       try with_reducible rfl
     try simp only [List.getElem_toArray, List.getElem_cons_succ, List.getElem_cons_zero, Act.put, List.setIfInBounds_toArray, List.set_cons_zero, List.set_cons_succ]
     refine wpAnyH_ready (rs := [9]) (by kernel_rfl) (by simp) ?_
     refine AllReadyH.cons rfl (fun K hK => ?_) AllReadyH.nil
     obtain ⟨z0, z1, z2, z3, z4, z5, z6⟩ := cellsV ub
     have zf := row_free ub
     go_simp
     obtain ⟨wf, hwf, hrw, hbf, hkf⟩ := finV (w := w2) (R := w2.heap.size) (.int .i64 x) (.int .i64 y.kind) (.string y.data) (.slice hy.A y.ptrs.length hy.a) (.int .i64 y.size) (.int .i64 y.count) (.slice hy.B y.items.length hy.b) ub hC hvb
     have HWF := Lib.hid hwf
     have hlb := row_lt Y1.out
     have v0 := (hkf _ (by omega)).trans u0
     have v1 := (hkf _ (by omega)).trans u1
     clear hwf z0 z1 z2 z3 z4 z5 z6 zf ub hC u0 u1 hkf
     rw [HWF.out]
     refine hK.out _ _ ⟨v0, v1⟩ (fun hHn => ?_)
     clear hK K hHo HWF
     try simp only [List.getElem_toArray, List.getElem_cons_succ, List.getElem_cons_zero, Act.put, List.setIfInBounds_toArray, List.set_cons_zero, List.set_cons_succ]
     have hHo := hHn
     clear hHn
     refine wpAnyH_take (i := 10) (v := ?_) rfl (by kernel_rfl) (by kernel_rfl) (by kernel_rfl) (fun _ _ _ h => h) (Or.inl ⟨by rfl, ?_⟩) (by assumption) ?_
     rotate_left
     · intro w hSw
       (try dsimp only at hSw)
       go_simp
       try with_reducible rfl
     try simp only [List.getElem_toArray, List.getElem_cons_succ, List.getElem_cons_zero, Act.put, List.setIfInBounds_toArray, List.set_cons_zero, List.set_cons_succ]
     refine wpAnyH_done (by kernel_rfl) ?_ _
     clear hHo v0 v1
     obtain ⟨z0, z1, z2, z3, z4, z5, z6⟩ := cellsV hrw
     have hlv := row_lt hrw
     have HBV := Lib.hid (HB2.out.trans (hbf.mono HB2.out.size))
     have HRW := Lib.hid hrw
     have HZ2 := Lib.hid ((hbf.block _ (row_lt Y2.out)).trans Y2.out)
     have hly := row_lt Y2.out
     clear hbf hrw
     go_wp2_with fail
     clear z0 z1 z2 z3 z4 z5 z6
     refine (HCP.out _ HBV.out).mono ?_
     rintro e w5 ⟨h5, bs, rfl, ho, hd, hg, hb5⟩
     have hr5 := (hb5.block _ hlv).trans HRW.out
     have HZ5 := Lib.hid ((hb5.block _ (row_lt HZ2.out)).trans HZ2.out)
     have HB5 := Lib.hid (HBV.out.trans (hb5.mono HBV.out.size))
     have HR5 := Lib.hid hr5
     have HO := Lib.hid ho
     have HG := Lib.hid (And.intro hd hg)
     obtain ⟨z0, z1, z2, z3, z4, z5, z6⟩ := cellsV hr5
     have zf := row_free hr5
     obtain ⟨w6, hw6, hrw6, hbf6, hkf6⟩ := finW (w := w) (R := w.heap.size) (.int .i64 y.kind) (.string y.data) (.slice h5.A y.ptrs.length h5.a) (.int .i64 y.size) (.int .i64 y.count) (.slice h5.B y.items.length h5.b) HR5.out HB5.out (by have := HB2.out.size; omega)
     have hz6 := (hkf6 _ (by omega)).trans HZ5.out
     obtain ⟨f0, f1, f2, f3, f4, f5, f6⟩ := cellsV hrw6
     obtain ⟨g0, g1, g2, g3, g4, g5, g6⟩ := cellsV hz6
     have gf := row_free hz6
     have HW6 := Lib.hid hw6
     have HBF6 := Lib.hid hbf6
     have HK6 := Lib.hid hkf6
     have HZ6 := Lib.hid hz6
     clear hbf6 hkf6 hz6 hb5 ho hd hg hr5
     go_wp2_with (fail)
     obtain ⟨w7, hw7, hrw7, hbf7, hkf7⟩ := finV (w := w) (R := w.heap.size) (.int .i64 x) (.int .i64 y.kind) (.string y.data) (.slice h5.A y.ptrs.length h5.a) (.int .i64 y.size) (.int .i64 y.count) (.slice h5.B y.items.length h5.b) HZ6.out HBF6.out (by omega)
     try rw [hw7]
     obtain ⟨e0, e1, e2, e3, e4, e5, e6⟩ := cellsV hrw7
     exact bodyPost_ret (v := .tuple #[valV x y h5, .bool ok]) (by simp [results, Try.results10, go_sem, e0, e1, e2, e3, e4, e5, e6]) rfl ⟨h5, bs, rfl, HO.out.frame (fun b hb => (hkf7 _ (by have := HG.out.2 b hb; omega)).trans (HK6.out _ (by have := HG.out.2 b hb; omega))), HG.out.1, fun b hb => by have := HG.out.2 b hb; have := HBV.out.size; omega, hbf7⟩
 · go_simp
   have hba : Below w2.heap.size w2.drew ((w2.alloc (.cells #[.int .i64 0, .int .i64 0, .string { data := #[] }, .slice none 0 0, .int .i64 0, .int .i64 0, .slice none 0 0] valT)).drew) := (Below.refl w2.drew.heap.size w2.drew).alloc (Nat.le_refl _) (.cells #[.int .i64 0, .int .i64 0, .string { data := #[] }, .slice none 0 0, .int .i64 0, .int .i64 0, .slice none 0 0] valT)
   have hC' : Below w2.heap.size w2 ((w2.alloc (.cells #[.int .i64 0, .int .i64 0, .string { data := #[] }, .slice none 0 0, .int .i64 0, .int .i64 0, .slice none 0 0] valT)).drew) := hC.trans (hba.mono hC.size)
   have ub : ((w2.alloc (.cells #[.int .i64 0, .int .i64 0, .string { data := #[] }, .slice none 0 0, .int .i64 0, .int .i64 0, .slice none 0 0] valT)).drew).heap[w2.heap.size]? = some (.cells #[.int .i64 0, .int .i64 0, .string { data := #[] }, .slice none 0 0, .int .i64 0, .int .i64 0, .slice none 0 0] valT (0, 0)) := heap_alloc_new w2.drew (.cells #[.int .i64 0, .int .i64 0, .string { data := #[] }, .slice none 0 0, .int .i64 0, .int .i64 0, .slice none 0 0] valT)
   have v0 := (hba.block _ (row_lt u0)).trans u0
   have v1 := (hba.block _ (row_lt u1)).trans u1
   obtain ⟨vb, hvbe⟩ : ∃ vb, vb = w2.heap.size := ⟨_, rfl⟩
   have hvb : w2.heap.size ≤ vb := by rw [hvbe]; exact hC.size
   clear hba hC u0 u1
   rw [← hvbe] at ub ⊢
   clear hvbe
   generalize ((w2.alloc (.cells #[.int .i64 0, .int .i64 0, .string { data := #[] }, .slice none 0 0, .int .i64 0, .int .i64 0, .slice none 0 0] valT)).drew) = wa at *
   refine hK.out _ _ ⟨v0, v1⟩ (fun hHn => ?_)
   clear hK K hHo
   have hHo := hHn
   clear hHn
   have u0 := v0
   have u1 := v1
   have hC := hC'
   clear v0 v1 hC'
   try simp only [List.getElem_toArray, List.getElem_cons_succ, List.getElem_cons_zero, Act.put, List.setIfInBounds_toArray, List.set_cons_zero, List.set_cons_succ]
   refine wpAnyH_ready (rs := [1]) (by kernel_rfl) (by simp) ?_
   refine AllReadyH.cons rfl (fun K hK => ?_) AllReadyH.nil
   go_simp
   go_at_call 28
   refine (HAO.out _ (HB2.out.trans (hC.mono HB2.out.size))).mono ?_
   rintro e w3 ⟨b, g, rfl, hb3, HG⟩
   have hG := Lib.hid HG
   clear HG
   have hC' := hC.trans (hb3.mono hC.size)
   have hcs := hb3.size
   have v0 := (hb3.block _ (row_lt u0)).trans u0
   have v1 := (hb3.block _ (row_lt u1)).trans u1
   have wb := (hb3.block _ (row_lt ub)).trans ub
   clear ub
   have ub := wb
   clear wb
   clear hb3 hC u0 u1
   go_wp2_with fail
   refine hK.out _ _ ⟨v0, v1⟩ (fun hHn => ?_)
   clear hK K hHo
   have hHo := hHn
   clear hHn
   have u0 := v0
   have u1 := v1
   have hC := hC'
   clear v0 v1 hC'
   try simp only [List.getElem_toArray, List.getElem_cons_succ, List.getElem_cons_zero, Act.put, List.setIfInBounds_toArray, List.set_cons_zero, List.set_cons_succ]
   have HFL1 := HFL.out
   refine wpAnyH_take (i := 2) (v := ?_) rfl (by kernel_rfl) (by kernel_rfl) (by kernel_rfl) (fun _ _ _ h => h) (Or.inl ⟨by rfl, ?_⟩) (by assumption) ?_
   rotate_left
   · intro w hSw
     (try dsimp only at hSw)
     go_simp
     try with_reducible rfl
   try simp only [List.getElem_toArray, List.getElem_cons_succ, List.getElem_cons_zero, Act.put, List.setIfInBounds_toArray, List.set_cons_zero, List.set_cons_succ]
   clear HFL1
   unfold bit1V
   refine wpAnyH_ready (rs := [4]) (by kernel_rfl) (by simp) ?_
   refine AllReadyH.cons rfl (fun K hK => ?_) AllReadyH.nil
   go_simp
   go_at_call 71
   refine (hG.out _ (Below.refl _ _)).mono ?_
   rintro e w4 ⟨rfl, hb4⟩
   have hC' := hC.trans (hb4.mono hC.size)
   have v0 := (hb4.block _ (row_lt u0)).trans u0
   have v1 := (hb4.block _ (row_lt u1)).trans u1
   have wb := (hb4.block _ (row_lt ub)).trans ub
   clear ub
   have ub := wb
   clear wb
   clear hb4 hC u0 u1 hG
   go_wp2_with fail
   refine hK.out _ _ ⟨v0, v1⟩ (fun hHn => ?_)
   clear hK K hHo
   have hHo := hHn
   clear hHn
   have u0 := v0
   have u1 := v1
   have hC := hC'
   clear v0 v1 hC'
   try simp only [List.getElem_toArray, List.getElem_cons_succ, List.getElem_cons_zero, Act.put, List.setIfInBounds_toArray, List.set_cons_zero, List.set_cons_succ]
   refine wpAnyH_take (i := 5) (v := ?_) rfl (by kernel_rfl) (by kernel_rfl) (by kernel_rfl) (fun _ _ _ h => h) (Or.inl ⟨by rfl, ?_⟩) (by assumption) ?_
   rotate_left
   · intro w hSw
     (try dsimp only at hSw)
     go_simp
     try with_reducible rfl
   try simp only [List.getElem_toArray, List.getElem_cons_succ, List.getElem_cons_zero, Act.put, List.setIfInBounds_toArray, List.set_cons_zero, List.set_cons_succ]
   refine wpAnyH_take (i := 6) (v := ?_) rfl (by kernel_rfl) (by kernel_rfl) (by kernel_rfl) (fun _ _ _ h => h) (Or.inl ⟨by rfl, ?_⟩) (by assumption) ?_
   rotate_left
   · intro w hSw
     (try dsimp only at hSw)
     go_simp
     try with_reducible rfl
   try simp only [List.getElem_toArray, List.getElem_cons_succ, List.getElem_cons_zero, Act.put, List.setIfInBounds_toArray, List.set_cons_zero, List.set_cons_succ]
   refine wpAnyH_take (i := 7) (v := ?_) rfl (by kernel_rfl) (by kernel_rfl) (by kernel_rfl) (fun _ _ _ h => h) (Or.inl ⟨by rfl, ?_⟩) (by assumption) ?_
   rotate_left
   · intro w hSw
     (try dsimp only at hSw)
     go_simp
     try with_reducible rfl
   try simp only [List.getElem_toArray, List.getElem_cons_succ, List.getElem_cons_zero, Act.put, List.setIfInBounds_toArray, List.set_cons_zero, List.set_cons_succ]
   refine wpAnyH_ready (rs := [9]) (by kernel_rfl) (by simp) ?_
   refine AllReadyH.cons rfl (fun K hK => ?_) AllReadyH.nil
   obtain ⟨z0, z1, z2, z3, z4, z5, z6⟩ := cellsV ub
   have zf := row_free ub
   go_simp
   obtain ⟨wf, hwf, hrw, hbf, hkf⟩ := finV (w := w2) (R := w2.heap.size) (.int .i64 x) (.int .i64 y.kind) (.string y.data) (.slice hy.A y.ptrs.length hy.a) (.int .i64 y.size) (.int .i64 y.count) (.slice hy.B y.items.length hy.b) ub hC hvb
   have HWF := Lib.hid hwf
   have hlb := row_lt Y1.out
   have v0 := (hkf _ (by omega)).trans u0
   have v1 := (hkf _ (by omega)).trans u1
   clear hwf z0 z1 z2 z3 z4 z5 z6 zf ub hC u0 u1 hkf
   rw [HWF.out]
   refine hK.out _ _ ⟨v0, v1⟩ (fun hHn => ?_)
   clear hK K hHo HWF
   try simp only [List.getElem_toArray, List.getElem_cons_succ, List.getElem_cons_zero, Act.put, List.setIfInBounds_toArray, List.set_cons_zero, List.set_cons_succ]
   have hHo := hHn
   clear hHn
   refine wpAnyH_take (i := 10) (v := ?_) rfl (by kernel_rfl) (by kernel_rfl) (by kernel_rfl) (fun _ _ _ h => h) (Or.inl ⟨by rfl, ?_⟩) (by assumption) ?_
   rotate_left
   · intro w hSw
     (try dsimp only at hSw)
     go_simp
     try with_reducible rfl
   try simp only [List.getElem_toArray, List.getElem_cons_succ, List.getElem_cons_zero, Act.put, List.setIfInBounds_toArray, List.set_cons_zero, List.set_cons_succ]
   refine wpAnyH_done (by kernel_rfl) ?_ _
   clear hHo v0 v1
   obtain ⟨z0, z1, z2, z3, z4, z5, z6⟩ := cellsV hrw
   have hlv := row_lt hrw
   have HBV := Lib.hid (HB2.out.trans (hbf.mono HB2.out.size))
   have HRW := Lib.hid hrw
   have HZ2 := Lib.hid ((hbf.block _ (row_lt Y2.out)).trans Y2.out)
   have hly := row_lt Y2.out
   clear hbf hrw
   go_wp2_with fail
   clear z0 z1 z2 z3 z4 z5 z6
   refine (HCP.out _ HBV.out).mono ?_
   rintro e w5 ⟨h5, bs, rfl, ho, hd, hg, hb5⟩
   have hr5 := (hb5.block _ hlv).trans HRW.out
   have HZ5 := Lib.hid ((hb5.block _ (row_lt HZ2.out)).trans HZ2.out)
   have HB5 := Lib.hid (HBV.out.trans (hb5.mono HBV.out.size))
   have HR5 := Lib.hid hr5
   have HO := Lib.hid ho
   have HG := Lib.hid (And.intro hd hg)
   obtain ⟨z0, z1, z2, z3, z4, z5, z6⟩ := cellsV hr5
   have zf := row_free hr5
   obtain ⟨w6, hw6, hrw6, hbf6, hkf6⟩ := finW (w := w) (R := w.heap.size) (.int .i64 y.kind) (.string y.data) (.slice h5.A y.ptrs.length h5.a) (.int .i64 y.size) (.int .i64 y.count) (.slice h5.B y.items.length h5.b) HR5.out HB5.out (by have := HB2.out.size; omega)
   have hz6 := (hkf6 _ (by omega)).trans HZ5.out
   obtain ⟨f0, f1, f2, f3, f4, f5, f6⟩ := cellsV hrw6
   obtain ⟨g0, g1, g2, g3, g4, g5, g6⟩ := cellsV hz6
   have gf := row_free hz6
   have HW6 := Lib.hid hw6
   have HBF6 := Lib.hid hbf6
   have HK6 := Lib.hid hkf6
   have HZ6 := Lib.hid hz6
   clear hbf6 hkf6 hz6 hb5 ho hd hg hr5
   go_wp2_with (fail)
   obtain ⟨w7, hw7, hrw7, hbf7, hkf7⟩ := finV (w := w) (R := w.heap.size) (.int .i64 x) (.int .i64 y.kind) (.string y.data) (.slice h5.A y.ptrs.length h5.a) (.int .i64 y.size) (.int .i64 y.count) (.slice h5.B y.items.length h5.b) HZ6.out HBF6.out (by omega)
   try rw [hw7]
   obtain ⟨e0, e1, e2, e3, e4, e5, e6⟩ := cellsV hrw7
   exact bodyPost_ret (v := .tuple #[valV x y h5, .bool ok]) (by simp [results, Try.results10, go_sem, e0, e1, e2, e3, e4, e5, e6]) rfl ⟨h5, bs, rfl, HO.out.frame (fun b hb => (hkf7 _ (by have := HG.out.2 b hb; omega)).trans (HK6.out _ (by have := HG.out.2 b hb; omega))), HG.out.1, fun b hb => by have := HG.out.2 b hb; have := HBV.out.size; omega, hbf7⟩
end Go.Proofs.Ytfnecflkahmjoaa
