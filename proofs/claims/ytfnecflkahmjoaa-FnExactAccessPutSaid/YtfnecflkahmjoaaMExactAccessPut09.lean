/- Texts of the proof of the law FnExactAccessPut, side by side: part 9. -/
import Derived.Test.YtfnecflkahmjoaaMExactAccessPut08
set_option maxHeartbeats 8000000
set_option maxRecDepth 100000
namespace Go.Proofs.Ytfnecflkahmjoaa
open Go.RowKit Go.Deep
theorem acPut_told_true (nm : ByteArray) (k at_ sz tu tg pl num : Int) (m : Nat) (n : Nd) (h : Hd) (w : World) (S : Nat → Prop) (hs : nm.size ≤ maxLen) (ht : i64b tu) (hp : i64b pl) (hn : NdAt w S m n h) (htn : totN m n ≤ 2000000) (s2 : ByteArray) (hs2 : s2.size ≤ maxLen) (hA : accB nm k at_ sz tu tg pl = true) (hk : n.kind = 1) (hO : nodeOk n = true)
 (HAC : ∀ W : World, Below w.heap.size w W → Calls Try.prog 28 #[accV nm k at_ sz tu tg pl] W fun e w' => ∃ b g, e = .returned (.agg #[g, told2V b]) ∧ Below W.heap.size W w' ∧ ∀ V : World, Below w'.heap.size w' V → Calls Try.prog 80 #[.string n.data, .int .i64 num, .pointer (some ⟨b, 0, none⟩), .pointer (some ⟨b + 1, 0, none⟩), .pointer (some ⟨b + 2, 0, none⟩)] V (PutQ s2 true V)) :
 Calls Try.prog 17 #[accV nm k at_ sz tu tg pl, .agg #[.int .i64 n.kind, .string n.data, .slice h.A n.ptrs.length h.a, .int .i64 n.size, .int .i64 n.count, .slice h.B n.items.length h.b], .int .i64 num] w (NewNP (m + 1) (withD n s2) true w) := by
 have hk1 : (n.kind != 1) = false := by simp [hk]
 have hsn : sizN n ≤ 2000000 := by rw [← totN_siz hn]; exact htn
 have HCP := Lib.hid (fun (W : World) (hW : Below w.heap.size w W) => ciN_any m n h W S (hn.below hW) hsn)
 have HAO := Lib.hid HAC
 have HFL := Lib.hid fld_acr1
 have HS2 := Lib.hid hs2
 unfold accV at HAO
 unfold PutQ at HAO
 unfold NewO at HCP
 clear hk hsn HAC hs2
 have HOK := Lib.hid (fun W : World => implAccessOk_any nm k at_ sz tu tg pl W hs ht hp)
 have HNO := Lib.hid (fun (W : World) (hW : Below w.heap.size w W) => implNodeOk_a m n h W S (hn.below hW) htn)
 rw [hA] at HOK
 rw [hO] at HNO
 unfold accV at HOK ⊢
 have q0 := al_first w (.cells #[.string nm, .int .i64 k, .int .i64 at_, .int .i64 sz, .int .i64 tu, .int .i64 tg, .int .i64 pl] accT)
 have q1 := al_next q0 (.cells #[.int .i64 n.kind, .string n.data, .slice h.A n.ptrs.length h.a, .int .i64 n.size, .int .i64 n.count, .slice h.B n.items.length h.b] nodeT)
 have q2 := al_next q1 (.cells #[.int .i64 0, .string { data := #[] }, .slice none 0 0, .int .i64 0, .int .i64 0, .slice none 0 0] nodeT)
 have r0 := heap_alloc_keep (heap_alloc_keep (heap_alloc_new w (.cells #[.string nm, .int .i64 k, .int .i64 at_, .int .i64 sz, .int .i64 tu, .int .i64 tg, .int .i64 pl] accT)) (.cells #[.int .i64 n.kind, .string n.data, .slice h.A n.ptrs.length h.a, .int .i64 n.size, .int .i64 n.count, .slice h.B n.items.length h.b] nodeT)) (.cells #[.int .i64 0, .string { data := #[] }, .slice none 0 0, .int .i64 0, .int .i64 0, .slice none 0 0] nodeT)
 have r1 := heap_alloc_keep (al_row q0 #[.int .i64 n.kind, .string n.data, .slice h.A n.ptrs.length h.a, .int .i64 n.size, .int .i64 n.count, .slice h.B n.items.length h.b] nodeT) (.cells #[.int .i64 0, .string { data := #[] }, .slice none 0 0, .int .i64 0, .int .i64 0, .slice none 0 0] nodeT)
 have r2 := al_row q1 #[.int .i64 0, .string { data := #[] }, .slice none 0 0, .int .i64 0, .int .i64 0, .slice none 0 0] nodeT
 rw [show w.heap.size + (1 + 1) = w.heap.size + 1 + 1 from rfl] at r2
 have HB0 := Lib.hid q2.2
 have R0 := Lib.hid r0
 have R1 := Lib.hid r1
 have R2 := Lib.hid r2
 obtain ⟨a0, a1, a2, a3, a4, a5, a6⟩ := cellsV r0
 clear q2 q1 q0 r0 r1 r2 hn htn hA hs ht hp
 go_enter Try.func17, Try.ntmps17
 go_wp2_with fail
 generalize ((w.alloc (.cells #[.string nm, .int .i64 k, .int .i64 at_, .int .i64 sz, .int .i64 tu, .int .i64 tg, .int .i64 pl] accT)).alloc (.cells #[.int .i64 n.kind, .string n.data, .slice h.A n.ptrs.length h.a, .int .i64 n.size, .int .i64 n.count, .slice h.B n.items.length h.b] nodeT)).alloc (.cells #[.int .i64 0, .string { data := #[] }, .slice none 0 0, .int .i64 0, .int .i64 0, .slice none 0 0] nodeT) = W at *
 clear a0 a1 a2 a3 a4 a5 a6
 refine (HOK.out W).mono ?_
 rintro e w1 ⟨rfl, hb1⟩
 have HB1 := Lib.hid (HB0.out.trans (hb1.mono HB0.out.size))
 have X0 := Lib.hid ((hb1.block _ (row_lt R0.out)).trans R0.out)
 have X1 := Lib.hid ((hb1.block _ (row_lt R1.out)).trans R1.out)
 have X2 := Lib.hid ((hb1.block _ (row_lt R2.out)).trans R2.out)
 clear hb1
 obtain ⟨n0, n1, n2, n3, n4, n5⟩ := cells6 X1.out
 obtain ⟨z0, z1, z2, z3, z4, z5⟩ := cells6 X2.out
 have zf := row_free X2.out
 go_wp2_with fail
 clear n0 n1 n2 n3 n4 n5 z0 z1 z2 z3 z4 z5 zf
 refine (HNO.out w1 HB1.out).mono ?_
 rintro e w2 ⟨rfl, hb2⟩
 have HB2 := Lib.hid (HB1.out.trans (hb2.mono HB1.out.size))
 have Y0 := Lib.hid ((hb2.block _ (row_lt X0.out)).trans X0.out)
 have Y1 := Lib.hid ((hb2.block _ (row_lt X1.out)).trans X1.out)
 have Y2 := Lib.hid ((hb2.block _ (row_lt X2.out)).trans X2.out)
 clear hb2
 obtain ⟨n0, n1, n2, n3, n4, n5⟩ := cells6 Y1.out
 obtain ⟨z0, z1, z2, z3, z4, z5⟩ := cells6 Y2.out
 have zf := row_free Y2.out
 go_wp2_with fail
 clear n0 n1 n2 n3 n4 n5 z0 z1 z2 z3 z4 z5 zf
 refine (HCP.out w2 HB2.out).mono ?_
 rintro e w3 ⟨h3, bs, rfl, ho, hd, hg, hb3⟩
 have hba : Below w3.heap.size w3 (w3.alloc (.cells #[.int .i64 n.kind, .string n.data, .slice h3.A n.ptrs.length h3.a, .int .i64 n.size, .int .i64 n.count, .slice h3.B n.items.length h3.b] nodeT)) := (Below.refl _ _).alloc (Nat.le_refl _) _
 have hbb : Below w2.heap.size w2 (w3.alloc (.cells #[.int .i64 n.kind, .string n.data, .slice h3.A n.ptrs.length h3.a, .int .i64 n.size, .int .i64 n.count, .slice h3.B n.items.length h3.b] nodeT)) := hb3.trans (hba.mono hb3.size)
 have HB3 := Lib.hid (HB2.out.trans (hbb.mono HB2.out.size))
 have A0 := Lib.hid ((hbb.block _ (row_lt Y0.out)).trans Y0.out)
 have A1 := Lib.hid ((hbb.block _ (row_lt Y1.out)).trans Y1.out)
 have A2 := Lib.hid ((hbb.block _ (row_lt Y2.out)).trans Y2.out)
 have HV := Lib.hid (heap_alloc_new w3 (.cells #[.int .i64 n.kind, .string n.data, .slice h3.A n.ptrs.length h3.a, .int .i64 n.size, .int .i64 n.count, .slice h3.B n.items.length h3.b] nodeT))
 have HO := Lib.hid (ho.below hba)
 have HG : Hid (bs.Nodup ∧ ∀ b ∈ bs, w.heap.size + 1 + 1 < b ∧ b < w3.heap.size) := Lib.hid ⟨hd, fun b hb => ⟨by have := hg b hb; have := row_lt Y2.out; omega, (ho.lt b hb).1⟩⟩
 have hvl : w.heap.size + 1 + 1 < w3.heap.size := by have := hb3.size; have := row_lt Y2.out; omega
 clear hba hbb ho hd hg hb3
 go_wp2_with fail
 generalize w3.alloc (.cells #[.int .i64 n.kind, .string n.data, .slice h3.A n.ptrs.length h3.a, .int .i64 n.size, .int .i64 n.count, .slice h3.B n.items.length h3.b] nodeT) = V3 at *
 generalize w3.heap.size = vb at *
 have HDR : Hid (Below V3.heap.size V3 V3.drew) := Lib.hid ⟨rfl, rfl, rfl, Nat.le_refl _, fun _ _ => rfl⟩
 refine wp_region_held_drew (S := (fun V => V.heap[w.heap.size]? = some (.cells #[.string nm, .int .i64 k, .int .i64 at_, .int .i64 sz, .int .i64 tu, .int .i64 tg, .int .i64 pl] accT (0, 0)) ∧ V.heap[w.heap.size + 1]? = some (.cells #[.int .i64 n.kind, .string n.data, .slice h.A n.ptrs.length h.a, .int .i64 n.size, .int .i64 n.count, .slice h.B n.items.length h.b] nodeT (0, 0)))) (by kernel_rfl) ?_ (fun hH0 => ?_)
 · exact ⟨A0.out, A1.out⟩
 have hC := HDR.out
 have hHo := hH0
 clear hH0
 have u0 := A0.out
 have u1 := A1.out
 refine wpAnyH_take (i := 0) (v := .agg #[.string nm, .int .i64 k, .int .i64 at_, .int .i64 sz, .int .i64 tu, .int .i64 tg, .int .i64 pl]) rfl (by kernel_rfl) (by kernel_rfl) (by kernel_rfl) (fun _ _ _ h => h) (Or.inl ⟨by rfl, ?_⟩) (by assumption) ?_
 · intro w hSw
   obtain ⟨s0, s1, s2, s3, s4, s5, s6⟩ := cellsV hSw.1
   obtain ⟨t0, t1, t2, t3, t4, t5⟩ := cells6 hSw.2
   go_simp
 try simp only [List.getElem_toArray, List.getElem_cons_succ, List.getElem_cons_zero, Act.put, List.setIfInBounds_toArray, List.set_cons_zero, List.set_cons_succ]
 refine wpAnyH_take (i := 3) (v := ?_) rfl (by kernel_rfl) (by kernel_rfl) (by kernel_rfl) (fun _ _ _ h => h) (Or.inl ⟨by rfl, ?_⟩) (by assumption) ?_
 rotate_left
 · intro w hSw
   obtain ⟨s0, s1, s2, s3, s4, s5, s6⟩ := cellsV hSw.1
   obtain ⟨t0, t1, t2, t3, t4, t5⟩ := cells6 hSw.2
   go_simp
   try with_reducible rfl
 try simp only [List.getElem_toArray, List.getElem_cons_succ, List.getElem_cons_zero, Act.put, List.setIfInBounds_toArray, List.set_cons_zero, List.set_cons_succ]
 refine wpAnyH_take (i := 4) (v := ?_) rfl (by kernel_rfl) (by kernel_rfl) (by kernel_rfl) (fun _ _ _ h => h) (Or.inl ⟨by rfl, ?_⟩) (by assumption) ?_
 rotate_left
 · intro w hSw
   obtain ⟨s0, s1, s2, s3, s4, s5, s6⟩ := cellsV hSw.1
   obtain ⟨t0, t1, t2, t3, t4, t5⟩ := cells6 hSw.2
   go_simp
   try with_reducible rfl
 try simp only [List.getElem_toArray, List.getElem_cons_succ, List.getElem_cons_zero, Act.put, List.setIfInBounds_toArray, List.set_cons_zero, List.set_cons_succ]
 refine wpAnyH_take (i := 5) (v := ?_) rfl (by kernel_rfl) (by kernel_rfl) (by kernel_rfl) (fun _ _ _ h => h) (Or.inl ⟨by rfl, ?_⟩) (by assumption) ?_
 rotate_left
 · intro w hSw
   obtain ⟨s0, s1, s2, s3, s4, s5, s6⟩ := cellsV hSw.1
   obtain ⟨t0, t1, t2, t3, t4, t5⟩ := cells6 hSw.2
   go_simp
   try with_reducible rfl
 try simp only [List.getElem_toArray, List.getElem_cons_succ, List.getElem_cons_zero, Act.put, List.setIfInBounds_toArray, List.set_cons_zero, List.set_cons_succ]
 refine wpAnyH_ready (rs := [1]) (by kernel_rfl) (by simp) ?_
 refine AllReadyH.cons rfl (fun K hK => ?_) AllReadyH.nil
 go_simp
 go_at_call 28
 refine (HAO.out _ (HB3.out.trans (hC.mono HB3.out.size))).mono ?_
 rintro e w4 ⟨b, g, rfl, hb3, hG'⟩
 have hG := Lib.hid hG'
 clear hG'
 have hC' := hC.trans (hb3.mono hC.size)
 have v0 := (hb3.block _ (row_lt u0)).trans u0
 have v1 := (hb3.block _ (row_lt u1)).trans u1
 clear hb3 hC u0 u1
 go_wp2_with fail
 refine hK.out _ _ ⟨v0, v1⟩ (fun hHn => ?_)
 clear hK K hHo
 have hHo := hHn
 clear hHn
 have u0 := v0
 have u1 := v1
 have hC := hC'
 clear v0 v1 hC'
 try simp only [List.getElem_toArray, List.getElem_cons_succ, List.getElem_cons_zero, Act.put, List.setIfInBounds_toArray, List.set_cons_zero, List.set_cons_succ]
 have HFL1 := HFL.out
 refine wpAnyH_take (i := 2) (v := ?_) rfl (by kernel_rfl) (by kernel_rfl) (by kernel_rfl) (fun _ _ _ h => h) (Or.inl ⟨by rfl, ?_⟩) (by assumption) ?_
 rotate_left
 · intro w hSw
   (try dsimp only at hSw)
   go_simp
   try with_reducible rfl
 try simp only [List.getElem_toArray, List.getElem_cons_succ, List.getElem_cons_zero, Act.put, List.setIfInBounds_toArray, List.set_cons_zero, List.set_cons_succ]
 clear HFL1
 unfold told2V
 refine wpAnyH_ready (rs := [6]) (by kernel_rfl) (by simp) ?_
 refine AllReadyH.cons rfl (fun K hK => ?_) AllReadyH.nil
 go_simp
 go_at_call 80
 refine (hG.out _ (Below.refl _ _)).mono ?_
 rintro e w5 ⟨rfl, hb3⟩
 clear hG
 have hC' := hC.trans (hb3.mono hC.size)
 have v0 := (hb3.block _ (row_lt u0)).trans u0
 have v1 := (hb3.block _ (row_lt u1)).trans u1
 clear hb3 hC u0 u1
 go_wp2_with fail
 refine hK.out _ _ ⟨v0, v1⟩ (fun hHn => ?_)
 clear hK K hHo
 have hHo := hHn
 clear hHn
 have u0 := v0
 have u1 := v1
 have hC := hC'
 clear v0 v1 hC'
 try simp only [List.getElem_toArray, List.getElem_cons_succ, List.getElem_cons_zero, Act.put, List.setIfInBounds_toArray, List.set_cons_zero, List.set_cons_succ]
 refine wpAnyH_take (i := 7) (v := ?_) rfl (by kernel_rfl) (by kernel_rfl) (by kernel_rfl) (fun _ _ _ h => h) (Or.inl ⟨by rfl, ?_⟩) (by assumption) ?_
 rotate_left
 · intro w hSw
   (try dsimp only at hSw)
   go_simp
   try with_reducible rfl
 try simp only [List.getElem_toArray, List.getElem_cons_succ, List.getElem_cons_zero, Act.put, List.setIfInBounds_toArray, List.set_cons_zero, List.set_cons_succ]
 refine wpAnyH_take (i := 8) (v := ?_) rfl (by kernel_rfl) (by kernel_rfl) (by kernel_rfl) (fun _ _ _ h => h) (Or.inl ⟨by rfl, ?_⟩) (by assumption) ?_
 rotate_left
 · intro w hSw
   (try dsimp only at hSw)
   go_simp
   try with_reducible rfl
 try simp only [List.getElem_toArray, List.getElem_cons_succ, List.getElem_cons_zero, Act.put, List.setIfInBounds_toArray, List.set_cons_zero, List.set_cons_succ]
 refine wpAnyH_take (i := 9) (v := ?_) rfl (by kernel_rfl) (by kernel_rfl) (by kernel_rfl) (fun _ _ _ h => h) (Or.inl ⟨by rfl, ?_⟩) (by assumption) ?_
 rotate_left
 · intro w hSw
   (try dsimp only at hSw)
   go_simp
   try with_reducible rfl
 try simp only [List.getElem_toArray, List.getElem_cons_succ, List.getElem_cons_zero, Act.put, List.setIfInBounds_toArray, List.set_cons_zero, List.set_cons_succ]
 refine wpAnyH_take (i := 10) (v := ?_) rfl (by kernel_rfl) (by kernel_rfl) (by kernel_rfl) (fun _ _ _ h => h) (Or.inl ⟨by rfl, ?_⟩) (by assumption) ?_
 rotate_left
 · intro w hSw
   (try dsimp only at hSw)
   go_simp
   try with_reducible rfl
 try simp only [List.getElem_toArray, List.getElem_cons_succ, List.getElem_cons_zero, Act.put, List.setIfInBounds_toArray, List.set_cons_zero, List.set_cons_succ]
 refine wpAnyH_take (i := 11) (v := ?_) rfl (by kernel_rfl) (by kernel_rfl) (by kernel_rfl) (fun _ _ _ h => h) (Or.inl ⟨by rfl, ?_⟩) (by assumption) ?_
 rotate_left
 · intro w hSw
   (try dsimp only at hSw)
   go_simp
   try with_reducible rfl
 try simp only [List.getElem_toArray, List.getElem_cons_succ, List.getElem_cons_zero, Act.put, List.setIfInBounds_toArray, List.set_cons_zero, List.set_cons_succ]
 refine wpAnyH_done (by kernel_rfl) ?_ _
 clear hHo u0 u1
 have HB5 := Lib.hid (HB3.out.trans (hC.mono HB3.out.size))
 have hv5 := (hC.block _ (row_lt HV.out)).trans HV.out
 have HV5 := Lib.hid hv5
 have C2 := Lib.hid ((hC.block _ (row_lt A2.out)).trans A2.out)
 have HO5 := Lib.hid (HO.out.below hC)
 clear hC
 obtain ⟨n0, n1, n2, n3, n4, n5⟩ := cells6 hv5
 have nf := row_free hv5
 obtain ⟨z0, z1, z2, z3, z4, z5⟩ := cells6 C2.out
 have zf := row_free C2.out
 clear hv5
 have hy1 := row_setN HV5.out 1 (.string s2)
 simp only [List.setIfInBounds_toArray, List.set_cons_zero, List.set_cons_succ] at hy1
 have hx1 := (Below.heap_setCell w5 ⟨vb, 1, none⟩ (.string s2) (w.heap.size + 1 + 1) (by show w.heap.size + 1 + 1 ≠ vb; omega)).trans C2.out
 have HB6 := Lib.hid (HB5.out.setCell (p := ⟨vb, 1, none⟩) (by show w.heap.size ≤ vb; omega) (.string s2))
 have HO6 := Lib.hid ((HO5.out.withD HS2.out).frame (w' := w5.setCell ⟨vb, 1, none⟩ (.string s2)) (fun b hb => Below.heap_setCell w5 ⟨vb, 1, none⟩ (.string s2) b (by have := HG.out.2 b hb; show b ≠ vb; omega)))
 obtain ⟨wx, hwx⟩ : ∃ wx, w5.setCell ⟨vb, 1, none⟩ (.string s2) = wx := ⟨_, rfl⟩
 rw [hwx] at hy1 hx1 HB6 HO6
 obtain ⟨p0, p1, p2, p3, p4, p5⟩ := cells6 hy1
 obtain ⟨q0, q1, q2, q3, q4, q5⟩ := cells6 hx1
 have qf := row_free hx1
 have X6 := Lib.hid hx1
 clear hy1 hx1
 go_wp2_with fail
 obtain ⟨wf, hwf, hrw, hbf, hkf⟩ := finN (w := w) (R := w.heap.size) (.int .i64 n.kind) (.string s2) (.slice h3.A n.ptrs.length h3.a) (.int .i64 n.size) (.int .i64 n.count) (.slice h3.B n.items.length h3.b) X6.out HB6.out (by omega)
 rw [hwf]
 obtain ⟨e0, e1, e2, e3, e4, e5⟩ := cells6 hrw
 exact bodyPost_ret (v := .tuple #[.agg #[.int .i64 n.kind, .string s2, .slice h3.A n.ptrs.length h3.a, .int .i64 n.size, .int .i64 n.count, .slice h3.B n.items.length h3.b], .bool true]) (by simp [results, Try.results17, go_sem, e0, e1, e2, e3, e4, e5]) rfl ⟨h3, bs, rfl, HO6.out.frame (fun b hb => hkf _ (by have := HG.out.2 b hb; omega)), HG.out.1, fun b hb => by have := HG.out.2 b hb; omega, hbf⟩
theorem acPut_told_false (nm : ByteArray) (k at_ sz tu tg pl num : Int) (m : Nat) (n : Nd) (h : Hd) (w : World) (S : Nat → Prop) (hs : nm.size ≤ maxLen) (ht : i64b tu) (hp : i64b pl) (hn : NdAt w S m n h) (htn : totN m n ≤ 2000000) (s2 : ByteArray) (hs2 : s2.size ≤ maxLen) (hA : accB nm k at_ sz tu tg pl = true) (hk : n.kind = 1) (hO : nodeOk n = true)
 (HAC : ∀ W : World, Below w.heap.size w W → Calls Try.prog 28 #[accV nm k at_ sz tu tg pl] W fun e w' => ∃ b g, e = .returned (.agg #[g, told2V b]) ∧ Below W.heap.size W w' ∧ ∀ V : World, Below w'.heap.size w' V → Calls Try.prog 80 #[.string n.data, .int .i64 num, .pointer (some ⟨b, 0, none⟩), .pointer (some ⟨b + 1, 0, none⟩), .pointer (some ⟨b + 2, 0, none⟩)] V (PutQ s2 false V)) :
 Calls Try.prog 17 #[accV nm k at_ sz tu tg pl, .agg #[.int .i64 n.kind, .string n.data, .slice h.A n.ptrs.length h.a, .int .i64 n.size, .int .i64 n.count, .slice h.B n.items.length h.b], .int .i64 num] w (NewNP (m + 1) n false w) := by
 have hk1 : (n.kind != 1) = false := by simp [hk]
 have hsn : sizN n ≤ 2000000 := by rw [← totN_siz hn]; exact htn
 have HCP := Lib.hid (fun (W : World) (hW : Below w.heap.size w W) => ciN_any m n h W S (hn.below hW) hsn)
 have HAO := Lib.hid HAC
 have HFL := Lib.hid fld_acr1
 have HS2 := Lib.hid hs2
 unfold accV at HAO
 unfold PutQ at HAO
 unfold NewO at HCP
 clear hk hsn HAC hs2
 have HOK := Lib.hid (fun W : World => implAccessOk_any nm k at_ sz tu tg pl W hs ht hp)
 have HNO := Lib.hid (fun (W : World) (hW : Below w.heap.size w W) => implNodeOk_a m n h W S (hn.below hW) htn)
 rw [hA] at HOK
 rw [hO] at HNO
 unfold accV at HOK ⊢
 have q0 := al_first w (.cells #[.string nm, .int .i64 k, .int .i64 at_, .int .i64 sz, .int .i64 tu, .int .i64 tg, .int .i64 pl] accT)
 have q1 := al_next q0 (.cells #[.int .i64 n.kind, .string n.data, .slice h.A n.ptrs.length h.a, .int .i64 n.size, .int .i64 n.count, .slice h.B n.items.length h.b] nodeT)
 have q2 := al_next q1 (.cells #[.int .i64 0, .string { data := #[] }, .slice none 0 0, .int .i64 0, .int .i64 0, .slice none 0 0] nodeT)
 have r0 := heap_alloc_keep (heap_alloc_keep (heap_alloc_new w (.cells #[.string nm, .int .i64 k, .int .i64 at_, .int .i64 sz, .int .i64 tu, .int .i64 tg, .int .i64 pl] accT)) (.cells #[.int .i64 n.kind, .string n.data, .slice h.A n.ptrs.length h.a, .int .i64 n.size, .int .i64 n.count, .slice h.B n.items.length h.b] nodeT)) (.cells #[.int .i64 0, .string { data := #[] }, .slice none 0 0, .int .i64 0, .int .i64 0, .slice none 0 0] nodeT)
 have r1 := heap_alloc_keep (al_row q0 #[.int .i64 n.kind, .string n.data, .slice h.A n.ptrs.length h.a, .int .i64 n.size, .int .i64 n.count, .slice h.B n.items.length h.b] nodeT) (.cells #[.int .i64 0, .string { data := #[] }, .slice none 0 0, .int .i64 0, .int .i64 0, .slice none 0 0] nodeT)
 have r2 := al_row q1 #[.int .i64 0, .string { data := #[] }, .slice none 0 0, .int .i64 0, .int .i64 0, .slice none 0 0] nodeT
 rw [show w.heap.size + (1 + 1) = w.heap.size + 1 + 1 from rfl] at r2
 have HB0 := Lib.hid q2.2
 have R0 := Lib.hid r0
 have R1 := Lib.hid r1
 have R2 := Lib.hid r2
 obtain ⟨a0, a1, a2, a3, a4, a5, a6⟩ := cellsV r0
 clear q2 q1 q0 r0 r1 r2 hn htn hA hs ht hp
 go_enter Try.func17, Try.ntmps17
 go_wp2_with fail
 generalize ((w.alloc (.cells #[.string nm, .int .i64 k, .int .i64 at_, .int .i64 sz, .int .i64 tu, .int .i64 tg, .int .i64 pl] accT)).alloc (.cells #[.int .i64 n.kind, .string n.data, .slice h.A n.ptrs.length h.a, .int .i64 n.size, .int .i64 n.count, .slice h.B n.items.length h.b] nodeT)).alloc (.cells #[.int .i64 0, .string { data := #[] }, .slice none 0 0, .int .i64 0, .int .i64 0, .slice none 0 0] nodeT) = W at *
 clear a0 a1 a2 a3 a4 a5 a6
 refine (HOK.out W).mono ?_
 rintro e w1 ⟨rfl, hb1⟩
 have HB1 := Lib.hid (HB0.out.trans (hb1.mono HB0.out.size))
 have X0 := Lib.hid ((hb1.block _ (row_lt R0.out)).trans R0.out)
 have X1 := Lib.hid ((hb1.block _ (row_lt R1.out)).trans R1.out)
 have X2 := Lib.hid ((hb1.block _ (row_lt R2.out)).trans R2.out)
 clear hb1
 obtain ⟨n0, n1, n2, n3, n4, n5⟩ := cells6 X1.out
 obtain ⟨z0, z1, z2, z3, z4, z5⟩ := cells6 X2.out
 have zf := row_free X2.out
 go_wp2_with fail
 clear n0 n1 n2 n3 n4 n5 z0 z1 z2 z3 z4 z5 zf
 refine (HNO.out w1 HB1.out).mono ?_
 rintro e w2 ⟨rfl, hb2⟩
 have HB2 := Lib.hid (HB1.out.trans (hb2.mono HB1.out.size))
 have Y0 := Lib.hid ((hb2.block _ (row_lt X0.out)).trans X0.out)
 have Y1 := Lib.hid ((hb2.block _ (row_lt X1.out)).trans X1.out)
 have Y2 := Lib.hid ((hb2.block _ (row_lt X2.out)).trans X2.out)
 clear hb2
 obtain ⟨n0, n1, n2, n3, n4, n5⟩ := cells6 Y1.out
 obtain ⟨z0, z1, z2, z3, z4, z5⟩ := cells6 Y2.out
 have zf := row_free Y2.out
 go_wp2_with fail
 clear n0 n1 n2 n3 n4 n5 z0 z1 z2 z3 z4 z5 zf
 refine (HCP.out w2 HB2.out).mono ?_
 rintro e w3 ⟨h3, bs, rfl, ho, hd, hg, hb3⟩
 have hba : Below w3.heap.size w3 (w3.alloc (.cells #[.int .i64 n.kind, .string n.data, .slice h3.A n.ptrs.length h3.a, .int .i64 n.size, .int .i64 n.count, .slice h3.B n.items.length h3.b] nodeT)) := (Below.refl _ _).alloc (Nat.le_refl _) _
 have hbb : Below w2.heap.size w2 (w3.alloc (.cells #[.int .i64 n.kind, .string n.data, .slice h3.A n.ptrs.length h3.a, .int .i64 n.size, .int .i64 n.count, .slice h3.B n.items.length h3.b] nodeT)) := hb3.trans (hba.mono hb3.size)
 have HB3 := Lib.hid (HB2.out.trans (hbb.mono HB2.out.size))
 have A0 := Lib.hid ((hbb.block _ (row_lt Y0.out)).trans Y0.out)
 have A1 := Lib.hid ((hbb.block _ (row_lt Y1.out)).trans Y1.out)
 have A2 := Lib.hid ((hbb.block _ (row_lt Y2.out)).trans Y2.out)
 have HV := Lib.hid (heap_alloc_new w3 (.cells #[.int .i64 n.kind, .string n.data, .slice h3.A n.ptrs.length h3.a, .int .i64 n.size, .int .i64 n.count, .slice h3.B n.items.length h3.b] nodeT))
 have HO := Lib.hid (ho.below hba)
 have HG : Hid (bs.Nodup ∧ ∀ b ∈ bs, w.heap.size + 1 + 1 < b ∧ b < w3.heap.size) := Lib.hid ⟨hd, fun b hb => ⟨by have := hg b hb; have := row_lt Y2.out; omega, (ho.lt b hb).1⟩⟩
 have hvl : w.heap.size + 1 + 1 < w3.heap.size := by have := hb3.size; have := row_lt Y2.out; omega
 clear hba hbb ho hd hg hb3
 go_wp2_with fail
 generalize w3.alloc (.cells #[.int .i64 n.kind, .string n.data, .slice h3.A n.ptrs.length h3.a, .int .i64 n.size, .int .i64 n.count, .slice h3.B n.items.length h3.b] nodeT) = V3 at *
 generalize w3.heap.size = vb at *
 have HDR : Hid (Below V3.heap.size V3 V3.drew) := Lib.hid ⟨rfl, rfl, rfl, Nat.le_refl _, fun _ _ => rfl⟩
 refine wp_region_held_drew (S := (fun V => V.heap[w.heap.size]? = some (.cells #[.string nm, .int .i64 k, .int .i64 at_, .int .i64 sz, .int .i64 tu, .int .i64 tg, .int .i64 pl] accT (0, 0)) ∧ V.heap[w.heap.size + 1]? = some (.cells #[.int .i64 n.kind, .string n.data, .slice h.A n.ptrs.length h.a, .int .i64 n.size, .int .i64 n.count, .slice h.B n.items.length h.b] nodeT (0, 0)))) (by kernel_rfl) ?_ (fun hH0 => ?_)
 · exact ⟨A0.out, A1.out⟩
 have hC := HDR.out
 have hHo := hH0
 clear hH0
 have u0 := A0.out
 have u1 := A1.out
 refine wpAnyH_take (i := 0) (v := .agg #[.string nm, .int .i64 k, .int .i64 at_, .int .i64 sz, .int .i64 tu, .int .i64 tg, .int .i64 pl]) rfl (by kernel_rfl) (by kernel_rfl) (by kernel_rfl) (fun _ _ _ h => h) (Or.inl ⟨by rfl, ?_⟩) (by assumption) ?_
 · intro w hSw
   obtain ⟨s0, s1, s2, s3, s4, s5, s6⟩ := cellsV hSw.1
   obtain ⟨t0, t1, t2, t3, t4, t5⟩ := cells6 hSw.2
   go_simp
 try simp only [List.getElem_toArray, List.getElem_cons_succ, List.getElem_cons_zero, Act.put, List.setIfInBounds_toArray, List.set_cons_zero, List.set_cons_succ]
 refine wpAnyH_take (i := 3) (v := ?_) rfl (by kernel_rfl) (by kernel_rfl) (by kernel_rfl) (fun _ _ _ h => h) (Or.inl ⟨by rfl, ?_⟩) (by assumption) ?_
 rotate_left
 · intro w hSw
   obtain ⟨s0, s1, s2, s3, s4, s5, s6⟩ := cellsV hSw.1
   obtain ⟨t0, t1, t2, t3, t4, t5⟩ := cells6 hSw.2
   go_simp
   try with_reducible rfl
 try simp only [List.getElem_toArray, List.getElem_cons_succ, List.getElem_cons_zero, Act.put, List.setIfInBounds_toArray, List.set_cons_zero, List.set_cons_succ]
 refine wpAnyH_take (i := 4) (v := ?_) rfl (by kernel_rfl) (by kernel_rfl) (by kernel_rfl) (fun _ _ _ h => h) (Or.inl ⟨by rfl, ?_⟩) (by assumption) ?_
 rotate_left
 · intro w hSw
   obtain ⟨s0, s1, s2, s3, s4, s5, s6⟩ := cellsV hSw.1
   obtain ⟨t0, t1, t2, t3, t4, t5⟩ := cells6 hSw.2
   go_simp
   try with_reducible rfl
 try simp only [List.getElem_toArray, List.getElem_cons_succ, List.getElem_cons_zero, Act.put, List.setIfInBounds_toArray, List.set_cons_zero, List.set_cons_succ]
 refine wpAnyH_take (i := 5) (v := ?_) rfl (by kernel_rfl) (by kernel_rfl) (by kernel_rfl) (fun _ _ _ h => h) (Or.inl ⟨by rfl, ?_⟩) (by assumption) ?_
 rotate_left
 · intro w hSw
   obtain ⟨s0, s1, s2, s3, s4, s5, s6⟩ := cellsV hSw.1
   obtain ⟨t0, t1, t2, t3, t4, t5⟩ := cells6 hSw.2
   go_simp
   try with_reducible rfl
 try simp only [List.getElem_toArray, List.getElem_cons_succ, List.getElem_cons_zero, Act.put, List.setIfInBounds_toArray, List.set_cons_zero, List.set_cons_succ]
 refine wpAnyH_ready (rs := [1]) (by kernel_rfl) (by simp) ?_
 refine AllReadyH.cons rfl (fun K hK => ?_) AllReadyH.nil
 go_simp
 go_at_call 28
 refine (HAO.out _ (HB3.out.trans (hC.mono HB3.out.size))).mono ?_
 rintro e w4 ⟨b, g, rfl, hb3, hG'⟩
 have hG := Lib.hid hG'
 clear hG'
 have hC' := hC.trans (hb3.mono hC.size)
 have v0 := (hb3.block _ (row_lt u0)).trans u0
 have v1 := (hb3.block _ (row_lt u1)).trans u1
 clear hb3 hC u0 u1
 go_wp2_with fail
 refine hK.out _ _ ⟨v0, v1⟩ (fun hHn => ?_)
 clear hK K hHo
 have hHo := hHn
 clear hHn
 have u0 := v0
 have u1 := v1
 have hC := hC'
 clear v0 v1 hC'
 try simp only [List.getElem_toArray, List.getElem_cons_succ, List.getElem_cons_zero, Act.put, List.setIfInBounds_toArray, List.set_cons_zero, List.set_cons_succ]
 have HFL1 := HFL.out
 refine wpAnyH_take (i := 2) (v := ?_) rfl (by kernel_rfl) (by kernel_rfl) (by kernel_rfl) (fun _ _ _ h => h) (Or.inl ⟨by rfl, ?_⟩) (by assumption) ?_
 rotate_left
 · intro w hSw
   (try dsimp only at hSw)
   go_simp
   try with_reducible rfl
 try simp only [List.getElem_toArray, List.getElem_cons_succ, List.getElem_cons_zero, Act.put, List.setIfInBounds_toArray, List.set_cons_zero, List.set_cons_succ]
 clear HFL1
 unfold told2V
 refine wpAnyH_ready (rs := [6]) (by kernel_rfl) (by simp) ?_
 refine AllReadyH.cons rfl (fun K hK => ?_) AllReadyH.nil
 go_simp
 go_at_call 80
 refine (hG.out _ (Below.refl _ _)).mono ?_
 rintro e w5 ⟨rfl, hb3⟩
 clear hG
 have hC' := hC.trans (hb3.mono hC.size)
 have v0 := (hb3.block _ (row_lt u0)).trans u0
 have v1 := (hb3.block _ (row_lt u1)).trans u1
 clear hb3 hC u0 u1
 go_wp2_with fail
 refine hK.out _ _ ⟨v0, v1⟩ (fun hHn => ?_)
 clear hK K hHo
 have hHo := hHn
 clear hHn
 have u0 := v0
 have u1 := v1
 have hC := hC'
 clear v0 v1 hC'
 try simp only [List.getElem_toArray, List.getElem_cons_succ, List.getElem_cons_zero, Act.put, List.setIfInBounds_toArray, List.set_cons_zero, List.set_cons_succ]
 refine wpAnyH_take (i := 7) (v := ?_) rfl (by kernel_rfl) (by kernel_rfl) (by kernel_rfl) (fun _ _ _ h => h) (Or.inl ⟨by rfl, ?_⟩) (by assumption) ?_
 rotate_left
 · intro w hSw
   (try dsimp only at hSw)
   go_simp
   try with_reducible rfl
 try simp only [List.getElem_toArray, List.getElem_cons_succ, List.getElem_cons_zero, Act.put, List.setIfInBounds_toArray, List.set_cons_zero, List.set_cons_succ]
 refine wpAnyH_take (i := 8) (v := ?_) rfl (by kernel_rfl) (by kernel_rfl) (by kernel_rfl) (fun _ _ _ h => h) (Or.inl ⟨by rfl, ?_⟩) (by assumption) ?_
 rotate_left
 · intro w hSw
   (try dsimp only at hSw)
   go_simp
   try with_reducible rfl
 try simp only [List.getElem_toArray, List.getElem_cons_succ, List.getElem_cons_zero, Act.put, List.setIfInBounds_toArray, List.set_cons_zero, List.set_cons_succ]
 refine wpAnyH_take (i := 9) (v := ?_) rfl (by kernel_rfl) (by kernel_rfl) (by kernel_rfl) (fun _ _ _ h => h) (Or.inl ⟨by rfl, ?_⟩) (by assumption) ?_
 rotate_left
 · intro w hSw
   (try dsimp only at hSw)
   go_simp
   try with_reducible rfl
 try simp only [List.getElem_toArray, List.getElem_cons_succ, List.getElem_cons_zero, Act.put, List.setIfInBounds_toArray, List.set_cons_zero, List.set_cons_succ]
 refine wpAnyH_take (i := 10) (v := ?_) rfl (by kernel_rfl) (by kernel_rfl) (by kernel_rfl) (fun _ _ _ h => h) (Or.inl ⟨by rfl, ?_⟩) (by assumption) ?_
 rotate_left
 · intro w hSw
   (try dsimp only at hSw)
   go_simp
   try with_reducible rfl
 try simp only [List.getElem_toArray, List.getElem_cons_succ, List.getElem_cons_zero, Act.put, List.setIfInBounds_toArray, List.set_cons_zero, List.set_cons_succ]
 refine wpAnyH_take (i := 11) (v := ?_) rfl (by kernel_rfl) (by kernel_rfl) (by kernel_rfl) (fun _ _ _ h => h) (Or.inl ⟨by rfl, ?_⟩) (by assumption) ?_
 rotate_left
 · intro w hSw
   (try dsimp only at hSw)
   go_simp
   try with_reducible rfl
 try simp only [List.getElem_toArray, List.getElem_cons_succ, List.getElem_cons_zero, Act.put, List.setIfInBounds_toArray, List.set_cons_zero, List.set_cons_succ]
 refine wpAnyH_done (by kernel_rfl) ?_ _
 clear hHo u0 u1
 have HB5 := Lib.hid (HB3.out.trans (hC.mono HB3.out.size))
 have hv5 := (hC.block _ (row_lt HV.out)).trans HV.out
 have HV5 := Lib.hid hv5
 have C2 := Lib.hid ((hC.block _ (row_lt A2.out)).trans A2.out)
 have HO5 := Lib.hid (HO.out.below hC)
 clear hC
 obtain ⟨n0, n1, n2, n3, n4, n5⟩ := cells6 hv5
 have nf := row_free hv5
 obtain ⟨z0, z1, z2, z3, z4, z5⟩ := cells6 C2.out
 have zf := row_free C2.out
 clear hv5
 go_wp2_with fail
 obtain ⟨wf, hwf, hrw, hbf, hkf⟩ := finN (w := w) (R := w.heap.size) (.int .i64 n.kind) (.string n.data) (.slice h3.A n.ptrs.length h3.a) (.int .i64 n.size) (.int .i64 n.count) (.slice h3.B n.items.length h3.b) C2.out HB5.out (by omega)
 rw [hwf]
 obtain ⟨e0, e1, e2, e3, e4, e5⟩ := cells6 hrw
 exact bodyPost_ret (v := .tuple #[.agg #[.int .i64 n.kind, .string n.data, .slice h3.A n.ptrs.length h3.a, .int .i64 n.size, .int .i64 n.count, .slice h3.B n.items.length h3.b], .bool false]) (by simp [results, Try.results17, go_sem, e0, e1, e2, e3, e4, e5]) rfl ⟨h3, bs, rfl, HO5.out.frame (fun b hb => hkf _ (by have := HG.out.2 b hb; omega)), HG.out.1, fun b hb => by have := HG.out.2 b hb; omega, hbf⟩
end Go.Proofs.Ytfnecflkahmjoaa
