/- Texts of the proof of the law FnExactAccessPut, side by side: part 15. -/
import Derived.Test.YtfnecflkahmjoaaMExactAccessPut14
set_option maxHeartbeats 8000000
set_option maxRecDepth 100000
namespace Go.Proofs.Ytfnecflkahmjoaa
open Go.RowKit Go.Deep
theorem spPut_U3 (nm : ByteArray) (k at_ sz tu tg pl num : Int) (m : Nat) (n : Nd) (h : Hd) (w : World) (S : Nat → Prop) (hs : nm.size ≤ maxLen) (hn : NdAt w S m n h) (htn : totN m n ≤ 2000000) (hA : accB nm k at_ sz tu tg pl = true) (hO : nodeOk n = true) (hk : n.kind = 1) (htg : tg < 0) (hK : k = 3) :
 Calls Try.prog 16 #[accV nm k at_ sz tu tg pl, .agg #[.int .i64 n.kind, .string n.data, .slice h.A n.ptrs.length h.a, .int .i64 n.size, .int .i64 n.count, .slice h.B n.items.length h.b], .int .i64 num] w (NewNP (m + 1) n false w) := by
 have hk1 : (n.kind != 1) = false := by simp [hk]
 have hdl : n.data.size ≤ maxLen := hn.1
 have hln : (byL n).length = n.data.size := by simp
 have HCP := Lib.hid (fun (W : World) (hW : Below w.heap.size w W) => cpN_any m n h W S (hn.below hW) htn)
 unfold NewO at HCP
 have hge2 : decide (0 ≤ tg) = false := by simp; omega
 have hge : ¬ 0 ≤ tg := by omega
 have HKK := Lib.hid hK
 clear hK
 clear hk hdl hln
 have HOK := Lib.hid (fun W : World => specAccessOk_any nm k at_ sz tu tg pl W hs)
 have HNO := Lib.hid (fun (W : World) (hW : Below w.heap.size w W) => specNodeOk_a m n h W S (hn.below hW) htn)
 rw [hA] at HOK
 rw [hO] at HNO
 unfold accV at HOK ⊢
 have q0 := al_first w (.cells #[.string nm, .int .i64 k, .int .i64 at_, .int .i64 sz, .int .i64 tu, .int .i64 tg, .int .i64 pl] accT)
 have q1 := al_next q0 (.cells #[.int .i64 n.kind, .string n.data, .slice h.A n.ptrs.length h.a, .int .i64 n.size, .int .i64 n.count, .slice h.B n.items.length h.b] nodeT)
 have q2 := al_next q1 (.cells #[.int .i64 0, .string { data := #[] }, .slice none 0 0, .int .i64 0, .int .i64 0, .slice none 0 0] nodeT)
 have r0 := heap_alloc_keep (heap_alloc_keep (heap_alloc_new w (.cells #[.string nm, .int .i64 k, .int .i64 at_, .int .i64 sz, .int .i64 tu, .int .i64 tg, .int .i64 pl] accT)) (.cells #[.int .i64 n.kind, .string n.data, .slice h.A n.ptrs.length h.a, .int .i64 n.size, .int .i64 n.count, .slice h.B n.items.length h.b] nodeT)) (.cells #[.int .i64 0, .string { data := #[] }, .slice none 0 0, .int .i64 0, .int .i64 0, .slice none 0 0] nodeT)
 have r1 := heap_alloc_keep (al_row q0 #[.int .i64 n.kind, .string n.data, .slice h.A n.ptrs.length h.a, .int .i64 n.size, .int .i64 n.count, .slice h.B n.items.length h.b] nodeT) (.cells #[.int .i64 0, .string { data := #[] }, .slice none 0 0, .int .i64 0, .int .i64 0, .slice none 0 0] nodeT)
 have r2 := al_row q1 #[.int .i64 0, .string { data := #[] }, .slice none 0 0, .int .i64 0, .int .i64 0, .slice none 0 0] nodeT
 rw [show w.heap.size + (1 + 1) = w.heap.size + 1 + 1 from rfl] at r2
 have HB0 := Lib.hid q2.2
 have R0 := Lib.hid r0
 have R1 := Lib.hid r1
 have R2 := Lib.hid r2
 obtain ⟨a0, a1, a2, a3, a4, a5, a6⟩ := cellsV r0
 clear q2 q1 q0 r0 r1 r2 hn htn hA hs
 go_enter Try.func16, Try.ntmps16
 go_wp2_with fail
 generalize ((w.alloc (.cells #[.string nm, .int .i64 k, .int .i64 at_, .int .i64 sz, .int .i64 tu, .int .i64 tg, .int .i64 pl] accT)).alloc (.cells #[.int .i64 n.kind, .string n.data, .slice h.A n.ptrs.length h.a, .int .i64 n.size, .int .i64 n.count, .slice h.B n.items.length h.b] nodeT)).alloc (.cells #[.int .i64 0, .string { data := #[] }, .slice none 0 0, .int .i64 0, .int .i64 0, .slice none 0 0] nodeT) = W at *
 clear a0 a1 a2 a3 a4 a5 a6
 refine (HOK.out W).mono ?_
 rintro e w1 ⟨rfl, hb1⟩
 have HB1 := Lib.hid (HB0.out.trans (hb1.mono HB0.out.size))
 have X0 := Lib.hid ((hb1.block _ (row_lt R0.out)).trans R0.out)
 have X1 := Lib.hid ((hb1.block _ (row_lt R1.out)).trans R1.out)
 have X2 := Lib.hid ((hb1.block _ (row_lt R2.out)).trans R2.out)
 clear hb1
 obtain ⟨n0, n1, n2, n3, n4, n5⟩ := cells6 X1.out
 obtain ⟨z0, z1, z2, z3, z4, z5⟩ := cells6 X2.out
 have zf := row_free X2.out
 go_wp2_with fail
 clear n0 n1 n2 n3 n4 n5 z0 z1 z2 z3 z4 z5 zf
 refine (HNO.out w1 HB1.out).mono ?_
 rintro e w2 ⟨rfl, hb2⟩
 have HB2 := Lib.hid (HB1.out.trans (hb2.mono HB1.out.size))
 have Y0 := Lib.hid ((hb2.block _ (row_lt X0.out)).trans X0.out)
 have Y1 := Lib.hid ((hb2.block _ (row_lt X1.out)).trans X1.out)
 have Y2 := Lib.hid ((hb2.block _ (row_lt X2.out)).trans X2.out)
 clear hb2
 obtain ⟨n0, n1, n2, n3, n4, n5⟩ := cells6 Y1.out
 obtain ⟨z0, z1, z2, z3, z4, z5⟩ := cells6 Y2.out
 have zf := row_free Y2.out
 go_wp2_with fail
 clear n0 n1 n2 n3 n4 n5 z0 z1 z2 z3 z4 z5 zf
 refine (HCP.out w2 HB2.out).mono ?_
 rintro e w3 ⟨h3, bs, rfl, ho, hd, hg, hb3⟩
 have hba : Below w3.heap.size w3 (w3.alloc (.cells #[.int .i64 n.kind, .string n.data, .slice h3.A n.ptrs.length h3.a, .int .i64 n.size, .int .i64 n.count, .slice h3.B n.items.length h3.b] nodeT)) := (Below.refl _ _).alloc (Nat.le_refl _) _
 have hbb : Below w2.heap.size w2 (w3.alloc (.cells #[.int .i64 n.kind, .string n.data, .slice h3.A n.ptrs.length h3.a, .int .i64 n.size, .int .i64 n.count, .slice h3.B n.items.length h3.b] nodeT)) := hb3.trans (hba.mono hb3.size)
 have HB := Lib.hid (HB2.out.trans (hbb.mono HB2.out.size))
 have C0 := Lib.hid ((hbb.block _ (row_lt Y0.out)).trans Y0.out)
 have C1 := Lib.hid ((hbb.block _ (row_lt Y1.out)).trans Y1.out)
 have C2 := Lib.hid ((hbb.block _ (row_lt Y2.out)).trans Y2.out)
 have HV := Lib.hid (heap_alloc_new w3 (.cells #[.int .i64 n.kind, .string n.data, .slice h3.A n.ptrs.length h3.a, .int .i64 n.size, .int .i64 n.count, .slice h3.B n.items.length h3.b] nodeT))
 have HO := Lib.hid (ho.below hba)
 have HG : Hid (bs.Nodup ∧ ∀ b ∈ bs, w.heap.size + 1 + 1 < b ∧ b < w3.heap.size) := Lib.hid ⟨hd, fun b hb => ⟨by have := hg b hb; have := row_lt Y2.out; omega, (ho.lt b hb).1⟩⟩
 have hvl : w.heap.size + 1 + 1 < w3.heap.size := by have := hb3.size; have := row_lt Y2.out; omega
 clear hba hbb ho hd hg hb3 Y0 Y1 Y2 X0 X1 X2 R0 R1 R2
 have hK := HKK.out
 subst hK
 obtain ⟨c0, c1, c2, c3, c4, c5, c6⟩ := cellsV C0.out
 obtain ⟨n0, n1, n2, n3, n4, n5⟩ := cells6 C1.out
 obtain ⟨z0, z1, z2, z3, z4, z5⟩ := cells6 C2.out
 have zf := row_free C2.out
 obtain ⟨v0, v1, v2, v3, v4, v5⟩ := cells6 HV.out
 have nf := row_free HV.out
 go_wp2_with fail
 generalize w3.alloc (.cells #[.int .i64 n.kind, .string n.data, .slice h3.A n.ptrs.length h3.a, .int .i64 n.size, .int .i64 n.count, .slice h3.B n.items.length h3.b] nodeT) = wp at *
 generalize w3.heap.size = vb at *
 refine (HCP.out _ HB.out).mono ?_
 rintro e wq ⟨h9, bs9, rfl, ho9, hd9, hg9, hb9⟩
 have hz9 := (hb9.block _ (row_lt C2.out)).trans C2.out
 have HZ9 := Lib.hid hz9
 have HB9 := Lib.hid (HB.out.trans (hb9.mono HB.out.size))
 have HO9 := Lib.hid ho9
 have HG9 : Hid (bs9.Nodup ∧ ∀ b ∈ bs9, w.heap.size + 1 + 1 < b) := Lib.hid ⟨hd9, fun b hb => by have := hg9 b hb; have := row_lt C2.out; omega⟩
 clear n0 n1 n2 n3 n4 n5 z0 z1 z2 z3 z4 z5 zf nf v0 v1 v2 v3 v4 v5 c0 c1 c2 c3 c4 c5 c6
 obtain ⟨z0, z1, z2, z3, z4, z5⟩ := cells6 hz9
 have zf := row_free hz9
 clear ho9 hd9 hg9 hb9 hz9
 go_wp2_with fail
 obtain ⟨wf, hwf, hrw, hbf, hkf⟩ := finN (w := w) (R := w.heap.size) (.int .i64 n.kind) (.string n.data) (.slice h9.A n.ptrs.length h9.a) (.int .i64 n.size) (.int .i64 n.count) (.slice h9.B n.items.length h9.b) HZ9.out HB9.out (by omega)
 rw [hwf]
 obtain ⟨e0, e1, e2, e3, e4, e5⟩ := cells6 hrw
 exact bodyPost_ret (v := .tuple #[.agg #[.int .i64 n.kind, .string n.data, .slice h9.A n.ptrs.length h9.a, .int .i64 n.size, .int .i64 n.count, .slice h9.B n.items.length h9.b], .bool false]) (by simp [results, Try.results16, go_sem, e0, e1, e2, e3, e4, e5]) rfl ⟨h9, bs9, rfl, HO9.out.frame (fun b hb => hkf _ (by have := HG9.out.2 b hb; omega)), HG9.out.1, fun b hb => by have := HG9.out.2 b hb; omega, hbf⟩
theorem spPut_U1out (nm : ByteArray) (k at_ sz tu tg pl num : Int) (m : Nat) (n : Nd) (h : Hd) (w : World) (S : Nat → Prop) (hs : nm.size ≤ maxLen) (hn : NdAt w S m n h) (htn : totN m n ≤ 2000000) (hA : accB nm k at_ sz tu tg pl = true) (hO : nodeOk n = true) (hk : n.kind = 1) (htg : tg < 0) (hK : k = 1) (hin : inB num 0 1 = false) :
 Calls Try.prog 16 #[accV nm k at_ sz tu tg pl, .agg #[.int .i64 n.kind, .string n.data, .slice h.A n.ptrs.length h.a, .int .i64 n.size, .int .i64 n.count, .slice h.B n.items.length h.b], .int .i64 num] w (NewNP (m + 1) n false w) := by
 have hk1 : (n.kind != 1) = false := by simp [hk]
 have hdl : n.data.size ≤ maxLen := hn.1
 have hln : (byL n).length = n.data.size := by simp
 have HCP := Lib.hid (fun (W : World) (hW : Below w.heap.size w W) => cpN_any m n h W S (hn.below hW) htn)
 unfold NewO at HCP
 have hge2 : decide (0 ≤ tg) = false := by simp; omega
 have hge : ¬ 0 ≤ tg := by omega
 have hxb := xorI_bd num tu
 have HX : Hid (xorI num tu = bits .xor .i64 num tu) := Lib.hid rfl
 obtain ⟨x, hx⟩ : ∃ x, xorI num tu = x := ⟨_, rfl⟩
 rw [hx] at hxb HX
 have hxe := HX.out.symm
 have HIN := Lib.hid (fun W : World => l1In_any num 0 1 W)
 rw [hin] at HIN
 have HXE := Lib.hid hxe
 clear hx hxb hxe hin
 have HKK := Lib.hid hK
 clear hK
 clear hk hdl hln
 have HOK := Lib.hid (fun W : World => specAccessOk_any nm k at_ sz tu tg pl W hs)
 have HNO := Lib.hid (fun (W : World) (hW : Below w.heap.size w W) => specNodeOk_a m n h W S (hn.below hW) htn)
 rw [hA] at HOK
 rw [hO] at HNO
 unfold accV at HOK ⊢
 have q0 := al_first w (.cells #[.string nm, .int .i64 k, .int .i64 at_, .int .i64 sz, .int .i64 tu, .int .i64 tg, .int .i64 pl] accT)
 have q1 := al_next q0 (.cells #[.int .i64 n.kind, .string n.data, .slice h.A n.ptrs.length h.a, .int .i64 n.size, .int .i64 n.count, .slice h.B n.items.length h.b] nodeT)
 have q2 := al_next q1 (.cells #[.int .i64 0, .string { data := #[] }, .slice none 0 0, .int .i64 0, .int .i64 0, .slice none 0 0] nodeT)
 have r0 := heap_alloc_keep (heap_alloc_keep (heap_alloc_new w (.cells #[.string nm, .int .i64 k, .int .i64 at_, .int .i64 sz, .int .i64 tu, .int .i64 tg, .int .i64 pl] accT)) (.cells #[.int .i64 n.kind, .string n.data, .slice h.A n.ptrs.length h.a, .int .i64 n.size, .int .i64 n.count, .slice h.B n.items.length h.b] nodeT)) (.cells #[.int .i64 0, .string { data := #[] }, .slice none 0 0, .int .i64 0, .int .i64 0, .slice none 0 0] nodeT)
 have r1 := heap_alloc_keep (al_row q0 #[.int .i64 n.kind, .string n.data, .slice h.A n.ptrs.length h.a, .int .i64 n.size, .int .i64 n.count, .slice h.B n.items.length h.b] nodeT) (.cells #[.int .i64 0, .string { data := #[] }, .slice none 0 0, .int .i64 0, .int .i64 0, .slice none 0 0] nodeT)
 have r2 := al_row q1 #[.int .i64 0, .string { data := #[] }, .slice none 0 0, .int .i64 0, .int .i64 0, .slice none 0 0] nodeT
 rw [show w.heap.size + (1 + 1) = w.heap.size + 1 + 1 from rfl] at r2
 have HB0 := Lib.hid q2.2
 have R0 := Lib.hid r0
 have R1 := Lib.hid r1
 have R2 := Lib.hid r2
 obtain ⟨a0, a1, a2, a3, a4, a5, a6⟩ := cellsV r0
 clear q2 q1 q0 r0 r1 r2 hn htn hA hs
 go_enter Try.func16, Try.ntmps16
 go_wp2_with fail
 generalize ((w.alloc (.cells #[.string nm, .int .i64 k, .int .i64 at_, .int .i64 sz, .int .i64 tu, .int .i64 tg, .int .i64 pl] accT)).alloc (.cells #[.int .i64 n.kind, .string n.data, .slice h.A n.ptrs.length h.a, .int .i64 n.size, .int .i64 n.count, .slice h.B n.items.length h.b] nodeT)).alloc (.cells #[.int .i64 0, .string { data := #[] }, .slice none 0 0, .int .i64 0, .int .i64 0, .slice none 0 0] nodeT) = W at *
 clear a0 a1 a2 a3 a4 a5 a6
 refine (HOK.out W).mono ?_
 rintro e w1 ⟨rfl, hb1⟩
 have HB1 := Lib.hid (HB0.out.trans (hb1.mono HB0.out.size))
 have X0 := Lib.hid ((hb1.block _ (row_lt R0.out)).trans R0.out)
 have X1 := Lib.hid ((hb1.block _ (row_lt R1.out)).trans R1.out)
 have X2 := Lib.hid ((hb1.block _ (row_lt R2.out)).trans R2.out)
 clear hb1
 obtain ⟨n0, n1, n2, n3, n4, n5⟩ := cells6 X1.out
 obtain ⟨z0, z1, z2, z3, z4, z5⟩ := cells6 X2.out
 have zf := row_free X2.out
 go_wp2_with fail
 clear n0 n1 n2 n3 n4 n5 z0 z1 z2 z3 z4 z5 zf
 refine (HNO.out w1 HB1.out).mono ?_
 rintro e w2 ⟨rfl, hb2⟩
 have HB2 := Lib.hid (HB1.out.trans (hb2.mono HB1.out.size))
 have Y0 := Lib.hid ((hb2.block _ (row_lt X0.out)).trans X0.out)
 have Y1 := Lib.hid ((hb2.block _ (row_lt X1.out)).trans X1.out)
 have Y2 := Lib.hid ((hb2.block _ (row_lt X2.out)).trans X2.out)
 clear hb2
 obtain ⟨n0, n1, n2, n3, n4, n5⟩ := cells6 Y1.out
 obtain ⟨z0, z1, z2, z3, z4, z5⟩ := cells6 Y2.out
 have zf := row_free Y2.out
 go_wp2_with fail
 clear n0 n1 n2 n3 n4 n5 z0 z1 z2 z3 z4 z5 zf
 refine (HCP.out w2 HB2.out).mono ?_
 rintro e w3 ⟨h3, bs, rfl, ho, hd, hg, hb3⟩
 have hba : Below w3.heap.size w3 (w3.alloc (.cells #[.int .i64 n.kind, .string n.data, .slice h3.A n.ptrs.length h3.a, .int .i64 n.size, .int .i64 n.count, .slice h3.B n.items.length h3.b] nodeT)) := (Below.refl _ _).alloc (Nat.le_refl _) _
 have hbb : Below w2.heap.size w2 (w3.alloc (.cells #[.int .i64 n.kind, .string n.data, .slice h3.A n.ptrs.length h3.a, .int .i64 n.size, .int .i64 n.count, .slice h3.B n.items.length h3.b] nodeT)) := hb3.trans (hba.mono hb3.size)
 have HB := Lib.hid (HB2.out.trans (hbb.mono HB2.out.size))
 have C0 := Lib.hid ((hbb.block _ (row_lt Y0.out)).trans Y0.out)
 have C1 := Lib.hid ((hbb.block _ (row_lt Y1.out)).trans Y1.out)
 have C2 := Lib.hid ((hbb.block _ (row_lt Y2.out)).trans Y2.out)
 have HV := Lib.hid (heap_alloc_new w3 (.cells #[.int .i64 n.kind, .string n.data, .slice h3.A n.ptrs.length h3.a, .int .i64 n.size, .int .i64 n.count, .slice h3.B n.items.length h3.b] nodeT))
 have HO := Lib.hid (ho.below hba)
 have HG : Hid (bs.Nodup ∧ ∀ b ∈ bs, w.heap.size + 1 + 1 < b ∧ b < w3.heap.size) := Lib.hid ⟨hd, fun b hb => ⟨by have := hg b hb; have := row_lt Y2.out; omega, (ho.lt b hb).1⟩⟩
 have hvl : w.heap.size + 1 + 1 < w3.heap.size := by have := hb3.size; have := row_lt Y2.out; omega
 clear hba hbb ho hd hg hb3 Y0 Y1 Y2 X0 X1 X2 R0 R1 R2
 have hK := HKK.out
 subst hK
 obtain ⟨c0, c1, c2, c3, c4, c5, c6⟩ := cellsV C0.out
 obtain ⟨n0, n1, n2, n3, n4, n5⟩ := cells6 C1.out
 obtain ⟨z0, z1, z2, z3, z4, z5⟩ := cells6 C2.out
 have zf := row_free C2.out
 obtain ⟨v0, v1, v2, v3, v4, v5⟩ := cells6 HV.out
 have nf := row_free HV.out
 go_wp2_with fail
 generalize w3.alloc (.cells #[.int .i64 n.kind, .string n.data, .slice h3.A n.ptrs.length h3.a, .int .i64 n.size, .int .i64 n.count, .slice h3.B n.items.length h3.b] nodeT) = wp at *
 generalize w3.heap.size = vb at *
 refine (HIN.out _).mono ?_
 rintro e wi ⟨rfl, rfl⟩
 go_wp2_with fail
 refine (HCP.out _ HB.out).mono ?_
 rintro e wq ⟨h9, bs9, rfl, ho9, hd9, hg9, hb9⟩
 have hz9 := (hb9.block _ (row_lt C2.out)).trans C2.out
 have HZ9 := Lib.hid hz9
 have HB9 := Lib.hid (HB.out.trans (hb9.mono HB.out.size))
 have HO9 := Lib.hid ho9
 have HG9 : Hid (bs9.Nodup ∧ ∀ b ∈ bs9, w.heap.size + 1 + 1 < b) := Lib.hid ⟨hd9, fun b hb => by have := hg9 b hb; have := row_lt C2.out; omega⟩
 clear n0 n1 n2 n3 n4 n5 z0 z1 z2 z3 z4 z5 zf nf v0 v1 v2 v3 v4 v5 c0 c1 c2 c3 c4 c5 c6
 obtain ⟨z0, z1, z2, z3, z4, z5⟩ := cells6 hz9
 have zf := row_free hz9
 clear ho9 hd9 hg9 hb9 hz9
 go_wp2_with fail
 obtain ⟨wf, hwf, hrw, hbf, hkf⟩ := finN (w := w) (R := w.heap.size) (.int .i64 n.kind) (.string n.data) (.slice h9.A n.ptrs.length h9.a) (.int .i64 n.size) (.int .i64 n.count) (.slice h9.B n.items.length h9.b) HZ9.out HB9.out (by omega)
 rw [hwf]
 obtain ⟨e0, e1, e2, e3, e4, e5⟩ := cells6 hrw
 exact bodyPost_ret (v := .tuple #[.agg #[.int .i64 n.kind, .string n.data, .slice h9.A n.ptrs.length h9.a, .int .i64 n.size, .int .i64 n.count, .slice h9.B n.items.length h9.b], .bool false]) (by simp [results, Try.results16, go_sem, e0, e1, e2, e3, e4, e5]) rfl ⟨h9, bs9, rfl, HO9.out.frame (fun b hb => hkf _ (by have := HG9.out.2 b hb; omega)), HG9.out.1, fun b hb => by have := HG9.out.2 b hb; omega, hbf⟩
theorem spPut_U1no (nm : ByteArray) (k at_ sz tu tg pl num : Int) (m : Nat) (n : Nd) (h : Hd) (w : World) (S : Nat → Prop) (hs : nm.size ≤ maxLen) (hn : NdAt w S m n h) (htn : totN m n ≤ 2000000) (hA : accB nm k at_ sz tu tg pl = true) (hO : nodeOk n = true) (hk : n.kind = 1) (htg : tg < 0) (hK : k = 1) (hin : inB num 0 1 = true) (hf : bputB (byL n) at_ (xorI num tu) = false) :
 Calls Try.prog 16 #[accV nm k at_ sz tu tg pl, .agg #[.int .i64 n.kind, .string n.data, .slice h.A n.ptrs.length h.a, .int .i64 n.size, .int .i64 n.count, .slice h.B n.items.length h.b], .int .i64 num] w (NewNP (m + 1) n false w) := by
 have hk1 : (n.kind != 1) = false := by simp [hk]
 have hdl : n.data.size ≤ maxLen := hn.1
 have hln : (byL n).length = n.data.size := by simp
 have HCP := Lib.hid (fun (W : World) (hW : Below w.heap.size w W) => cpN_any m n h W S (hn.below hW) htn)
 unfold NewO at HCP
 have hge2 : decide (0 ≤ tg) = false := by simp; omega
 have hge : ¬ 0 ≤ tg := by omega
 have hxb := xorI_bd num tu
 have HX : Hid (xorI num tu = bits .xor .i64 num tu) := Lib.hid rfl
 obtain ⟨x, hx⟩ : ∃ x, xorI num tu = x := ⟨_, rfl⟩
 rw [hx] at hf
 rw [hx] at hxb HX
 have hxe := HX.out.symm
 have HIN := Lib.hid (fun W : World => l1In_any num 0 1 W)
 rw [hin] at HIN
 have HPP := Lib.hid (fun W : World => specBitPut_any n.data at_ x W hdl)
 rw [hf] at HPP
 obtain ⟨s2, hs2⟩ : ∃ s2, baL (bputT n.data.data.toList at_ x) = s2 := ⟨_, rfl⟩
 have Hs2 : Hid (s2.size ≤ maxLen) := Lib.hid (by
  rw [← hs2, baL_size]
  have := bput_bd n.data.data.toList at_ x
  have h3 : n.data.data.toList.length = n.data.size := by simp
  omega)
 have HE2 : Hid ((⟨(bputT n.data.data.toList at_ x).toArray⟩ : ByteArray) = s2) := Lib.hid hs2
 rw [HE2.out] at HPP
 have HXE := Lib.hid hxe
 clear hx hxb hxe hin hf hs2
 have HKK := Lib.hid hK
 clear hK
 clear hk hdl hln
 have HOK := Lib.hid (fun W : World => specAccessOk_any nm k at_ sz tu tg pl W hs)
 have HNO := Lib.hid (fun (W : World) (hW : Below w.heap.size w W) => specNodeOk_a m n h W S (hn.below hW) htn)
 rw [hA] at HOK
 rw [hO] at HNO
 unfold accV at HOK ⊢
 have q0 := al_first w (.cells #[.string nm, .int .i64 k, .int .i64 at_, .int .i64 sz, .int .i64 tu, .int .i64 tg, .int .i64 pl] accT)
 have q1 := al_next q0 (.cells #[.int .i64 n.kind, .string n.data, .slice h.A n.ptrs.length h.a, .int .i64 n.size, .int .i64 n.count, .slice h.B n.items.length h.b] nodeT)
 have q2 := al_next q1 (.cells #[.int .i64 0, .string { data := #[] }, .slice none 0 0, .int .i64 0, .int .i64 0, .slice none 0 0] nodeT)
 have r0 := heap_alloc_keep (heap_alloc_keep (heap_alloc_new w (.cells #[.string nm, .int .i64 k, .int .i64 at_, .int .i64 sz, .int .i64 tu, .int .i64 tg, .int .i64 pl] accT)) (.cells #[.int .i64 n.kind, .string n.data, .slice h.A n.ptrs.length h.a, .int .i64 n.size, .int .i64 n.count, .slice h.B n.items.length h.b] nodeT)) (.cells #[.int .i64 0, .string { data := #[] }, .slice none 0 0, .int .i64 0, .int .i64 0, .slice none 0 0] nodeT)
 have r1 := heap_alloc_keep (al_row q0 #[.int .i64 n.kind, .string n.data, .slice h.A n.ptrs.length h.a, .int .i64 n.size, .int .i64 n.count, .slice h.B n.items.length h.b] nodeT) (.cells #[.int .i64 0, .string { data := #[] }, .slice none 0 0, .int .i64 0, .int .i64 0, .slice none 0 0] nodeT)
 have r2 := al_row q1 #[.int .i64 0, .string { data := #[] }, .slice none 0 0, .int .i64 0, .int .i64 0, .slice none 0 0] nodeT
 rw [show w.heap.size + (1 + 1) = w.heap.size + 1 + 1 from rfl] at r2
 have HB0 := Lib.hid q2.2
 have R0 := Lib.hid r0
 have R1 := Lib.hid r1
 have R2 := Lib.hid r2
 obtain ⟨a0, a1, a2, a3, a4, a5, a6⟩ := cellsV r0
 clear q2 q1 q0 r0 r1 r2 hn htn hA hs
 go_enter Try.func16, Try.ntmps16
 go_wp2_with fail
 generalize ((w.alloc (.cells #[.string nm, .int .i64 k, .int .i64 at_, .int .i64 sz, .int .i64 tu, .int .i64 tg, .int .i64 pl] accT)).alloc (.cells #[.int .i64 n.kind, .string n.data, .slice h.A n.ptrs.length h.a, .int .i64 n.size, .int .i64 n.count, .slice h.B n.items.length h.b] nodeT)).alloc (.cells #[.int .i64 0, .string { data := #[] }, .slice none 0 0, .int .i64 0, .int .i64 0, .slice none 0 0] nodeT) = W at *
 clear a0 a1 a2 a3 a4 a5 a6
 refine (HOK.out W).mono ?_
 rintro e w1 ⟨rfl, hb1⟩
 have HB1 := Lib.hid (HB0.out.trans (hb1.mono HB0.out.size))
 have X0 := Lib.hid ((hb1.block _ (row_lt R0.out)).trans R0.out)
 have X1 := Lib.hid ((hb1.block _ (row_lt R1.out)).trans R1.out)
 have X2 := Lib.hid ((hb1.block _ (row_lt R2.out)).trans R2.out)
 clear hb1
 obtain ⟨n0, n1, n2, n3, n4, n5⟩ := cells6 X1.out
 obtain ⟨z0, z1, z2, z3, z4, z5⟩ := cells6 X2.out
 have zf := row_free X2.out
 go_wp2_with fail
 clear n0 n1 n2 n3 n4 n5 z0 z1 z2 z3 z4 z5 zf
 refine (HNO.out w1 HB1.out).mono ?_
 rintro e w2 ⟨rfl, hb2⟩
 have HB2 := Lib.hid (HB1.out.trans (hb2.mono HB1.out.size))
 have Y0 := Lib.hid ((hb2.block _ (row_lt X0.out)).trans X0.out)
 have Y1 := Lib.hid ((hb2.block _ (row_lt X1.out)).trans X1.out)
 have Y2 := Lib.hid ((hb2.block _ (row_lt X2.out)).trans X2.out)
 clear hb2
 obtain ⟨n0, n1, n2, n3, n4, n5⟩ := cells6 Y1.out
 obtain ⟨z0, z1, z2, z3, z4, z5⟩ := cells6 Y2.out
 have zf := row_free Y2.out
 go_wp2_with fail
 clear n0 n1 n2 n3 n4 n5 z0 z1 z2 z3 z4 z5 zf
 refine (HCP.out w2 HB2.out).mono ?_
 rintro e w3 ⟨h3, bs, rfl, ho, hd, hg, hb3⟩
 have hba : Below w3.heap.size w3 (w3.alloc (.cells #[.int .i64 n.kind, .string n.data, .slice h3.A n.ptrs.length h3.a, .int .i64 n.size, .int .i64 n.count, .slice h3.B n.items.length h3.b] nodeT)) := (Below.refl _ _).alloc (Nat.le_refl _) _
 have hbb : Below w2.heap.size w2 (w3.alloc (.cells #[.int .i64 n.kind, .string n.data, .slice h3.A n.ptrs.length h3.a, .int .i64 n.size, .int .i64 n.count, .slice h3.B n.items.length h3.b] nodeT)) := hb3.trans (hba.mono hb3.size)
 have HB := Lib.hid (HB2.out.trans (hbb.mono HB2.out.size))
 have C0 := Lib.hid ((hbb.block _ (row_lt Y0.out)).trans Y0.out)
 have C1 := Lib.hid ((hbb.block _ (row_lt Y1.out)).trans Y1.out)
 have C2 := Lib.hid ((hbb.block _ (row_lt Y2.out)).trans Y2.out)
 have HV := Lib.hid (heap_alloc_new w3 (.cells #[.int .i64 n.kind, .string n.data, .slice h3.A n.ptrs.length h3.a, .int .i64 n.size, .int .i64 n.count, .slice h3.B n.items.length h3.b] nodeT))
 have HO := Lib.hid (ho.below hba)
 have HG : Hid (bs.Nodup ∧ ∀ b ∈ bs, w.heap.size + 1 + 1 < b ∧ b < w3.heap.size) := Lib.hid ⟨hd, fun b hb => ⟨by have := hg b hb; have := row_lt Y2.out; omega, (ho.lt b hb).1⟩⟩
 have hvl : w.heap.size + 1 + 1 < w3.heap.size := by have := hb3.size; have := row_lt Y2.out; omega
 clear hba hbb ho hd hg hb3 Y0 Y1 Y2 X0 X1 X2 R0 R1 R2
 have hK := HKK.out
 subst hK
 obtain ⟨c0, c1, c2, c3, c4, c5, c6⟩ := cellsV C0.out
 obtain ⟨n0, n1, n2, n3, n4, n5⟩ := cells6 C1.out
 obtain ⟨z0, z1, z2, z3, z4, z5⟩ := cells6 C2.out
 have zf := row_free C2.out
 obtain ⟨v0, v1, v2, v3, v4, v5⟩ := cells6 HV.out
 have nf := row_free HV.out
 go_wp2_with fail
 generalize w3.alloc (.cells #[.int .i64 n.kind, .string n.data, .slice h3.A n.ptrs.length h3.a, .int .i64 n.size, .int .i64 n.count, .slice h3.B n.items.length h3.b] nodeT) = wp at *
 generalize w3.heap.size = vb at *
 refine (HIN.out _).mono ?_
 rintro e wi ⟨rfl, rfl⟩
 go_wp2_with fail
 try rw [HXE.out]
 clear n0 n1 n2 n3 n4 n5 z0 z1 z2 z3 z4 z5 zf nf v0 v1 v2 v3 v4 v5 c0 c1 c2 c3 c4 c5 c6
 refine (HPP.out _).mono ?_
 rintro e wy ⟨rfl, hb5⟩
 replace HV := Lib.hid ((hb5.block _ (row_lt HV.out)).trans HV.out)
 replace C0 := Lib.hid ((hb5.block _ (row_lt C0.out)).trans C0.out)
 replace C1 := Lib.hid ((hb5.block _ (row_lt C1.out)).trans C1.out)
 replace C2 := Lib.hid ((hb5.block _ (row_lt C2.out)).trans C2.out)
 replace HB := Lib.hid (HB.out.trans (hb5.mono HB.out.size))
 replace HO := Lib.hid (HO.out.below hb5)
 clear hb5
 obtain ⟨c0, c1, c2, c3, c4, c5, c6⟩ := cellsV C0.out
 obtain ⟨n0, n1, n2, n3, n4, n5⟩ := cells6 C1.out
 obtain ⟨z0, z1, z2, z3, z4, z5⟩ := cells6 C2.out
 have zf := row_free C2.out
 obtain ⟨v0, v1, v2, v3, v4, v5⟩ := cells6 HV.out
 have nf := row_free HV.out
 have hy1 := row_setN HV.out 1 (.string s2)
 simp only [List.setIfInBounds_toArray, List.set_cons_zero, List.set_cons_succ] at hy1
 have k0 := (Below.heap_setCell wy ⟨vb, 1, none⟩ (.string s2) w.heap.size (by show w.heap.size ≠ vb; omega)).trans C0.out
 have k1 := (Below.heap_setCell wy ⟨vb, 1, none⟩ (.string s2) (w.heap.size + 1) (by show w.heap.size + 1 ≠ vb; omega)).trans C1.out
 have k2 := (Below.heap_setCell wy ⟨vb, 1, none⟩ (.string s2) (w.heap.size + 1 + 1) (by show w.heap.size + 1 + 1 ≠ vb; omega)).trans C2.out
 have hbn := HB.out.setCell (p := ⟨vb, 1, none⟩) (by show w.heap.size ≤ vb; omega) (.string s2)
 have hon := (HO.out.withD (s := s2) (Hs2.out)).frame (w' := wy.setCell ⟨vb, 1, none⟩ (.string s2)) (fun b hb => Below.heap_setCell wy ⟨vb, 1, none⟩ (.string s2) b (by have := HG.out.2 b hb; show b ≠ vb; omega))
 obtain ⟨wv, hwx⟩ : ∃ wv, wy.setCell ⟨vb, 1, none⟩ (.string s2) = wv := ⟨_, rfl⟩
 rw [hwx] at hy1 k0 k1 k2 hbn hon
 replace HV := Lib.hid hy1
 replace C0 := Lib.hid k0
 replace C1 := Lib.hid k1
 replace C2 := Lib.hid k2
 replace HB := Lib.hid hbn
 replace HO := Lib.hid hon
 obtain ⟨p0, p1, p2, p3, p4, p5⟩ := cells6 hy1
 obtain ⟨r0, r1, r2, r3, r4, r5, r6⟩ := cellsV k0
 obtain ⟨s0, s1', s2', s3, s4, s5⟩ := cells6 k1
 obtain ⟨t0, t1, t2, t3, t4, t5⟩ := cells6 k2
 have tf := row_free k2
 have pf := row_free hy1
 clear hy1 k0 k1 k2 hbn hon
 go_wp2_with fail
 clear p0 p1 p2 p3 p4 p5 r0 r1 r2 r3 r4 r5 r6 s0 s1' s2' s3 s4 s5 t0 t1 t2 t3 t4 t5 tf pf hwx
 clear n0 n1 n2 n3 n4 n5 z0 z1 z2 z3 z4 z5 zf nf v0 v1 v2 v3 v4 v5 c0 c1 c2 c3 c4 c5 c6
 obtain ⟨c0, c1, c2, c3, c4, c5, c6⟩ := cellsV C0.out
 obtain ⟨n0, n1, n2, n3, n4, n5⟩ := cells6 C1.out
 obtain ⟨z0, z1, z2, z3, z4, z5⟩ := cells6 C2.out
 have zf := row_free C2.out
 obtain ⟨v0, v1, v2, v3, v4, v5⟩ := cells6 HV.out
 have nf := row_free HV.out
 refine (HCP.out _ HB.out).mono ?_
 rintro e wq ⟨h9, bs9, rfl, ho9, hd9, hg9, hb9⟩
 have hz9 := (hb9.block _ (row_lt C2.out)).trans C2.out
 have HZ9 := Lib.hid hz9
 have HB9 := Lib.hid (HB.out.trans (hb9.mono HB.out.size))
 have HO9 := Lib.hid ho9
 have HG9 : Hid (bs9.Nodup ∧ ∀ b ∈ bs9, w.heap.size + 1 + 1 < b) := Lib.hid ⟨hd9, fun b hb => by have := hg9 b hb; have := row_lt C2.out; omega⟩
 clear n0 n1 n2 n3 n4 n5 z0 z1 z2 z3 z4 z5 zf nf v0 v1 v2 v3 v4 v5 c0 c1 c2 c3 c4 c5 c6
 obtain ⟨z0, z1, z2, z3, z4, z5⟩ := cells6 hz9
 have zf := row_free hz9
 clear ho9 hd9 hg9 hb9 hz9
 go_wp2_with fail
 obtain ⟨wf, hwf, hrw, hbf, hkf⟩ := finN (w := w) (R := w.heap.size) (.int .i64 n.kind) (.string n.data) (.slice h9.A n.ptrs.length h9.a) (.int .i64 n.size) (.int .i64 n.count) (.slice h9.B n.items.length h9.b) HZ9.out HB9.out (by omega)
 rw [hwf]
 obtain ⟨e0, e1, e2, e3, e4, e5⟩ := cells6 hrw
 exact bodyPost_ret (v := .tuple #[.agg #[.int .i64 n.kind, .string n.data, .slice h9.A n.ptrs.length h9.a, .int .i64 n.size, .int .i64 n.count, .slice h9.B n.items.length h9.b], .bool false]) (by simp [results, Try.results16, go_sem, e0, e1, e2, e3, e4, e5]) rfl ⟨h9, bs9, rfl, HO9.out.frame (fun b hb => hkf _ (by have := HG9.out.2 b hb; omega)), HG9.out.1, fun b hb => by have := HG9.out.2 b hb; omega, hbf⟩
theorem spPut_U1yes (nm : ByteArray) (k at_ sz tu tg pl num : Int) (m : Nat) (n : Nd) (h : Hd) (w : World) (S : Nat → Prop) (hs : nm.size ≤ maxLen) (hn : NdAt w S m n h) (htn : totN m n ≤ 2000000) (hA : accB nm k at_ sz tu tg pl = true) (hO : nodeOk n = true) (hk : n.kind = 1) (htg : tg < 0) (hK : k = 1) (hin : inB num 0 1 = true) (hf : bputB (byL n) at_ (xorI num tu) = true) :
 Calls Try.prog 16 #[accV nm k at_ sz tu tg pl, .agg #[.int .i64 n.kind, .string n.data, .slice h.A n.ptrs.length h.a, .int .i64 n.size, .int .i64 n.count, .slice h.B n.items.length h.b], .int .i64 num] w (NewNP (m + 1) (withD n (baL (bputT (byL n) at_ (xorI num tu)))) true w) := by
 have hk1 : (n.kind != 1) = false := by simp [hk]
 have hdl : n.data.size ≤ maxLen := hn.1
 have hln : (byL n).length = n.data.size := by simp
 have HCP := Lib.hid (fun (W : World) (hW : Below w.heap.size w W) => cpN_any m n h W S (hn.below hW) htn)
 unfold NewO at HCP
 have hge2 : decide (0 ≤ tg) = false := by simp; omega
 have hge : ¬ 0 ≤ tg := by omega
 have hxb := xorI_bd num tu
 have HX : Hid (xorI num tu = bits .xor .i64 num tu) := Lib.hid rfl
 obtain ⟨x, hx⟩ : ∃ x, xorI num tu = x := ⟨_, rfl⟩
 rw [hx] at hf
 rw [hx] at hxb HX ⊢
 have hxe := HX.out.symm
 have HIN := Lib.hid (fun W : World => l1In_any num 0 1 W)
 rw [hin] at HIN
 have HPP := Lib.hid (fun W : World => specBitPut_any n.data at_ x W hdl)
 rw [hf] at HPP
 obtain ⟨s2, hs2⟩ : ∃ s2, baL (bputT n.data.data.toList at_ x) = s2 := ⟨_, rfl⟩
 have Hs2 : Hid (s2.size ≤ maxLen) := Lib.hid (by
  rw [← hs2, baL_size]
  have := bput_bd n.data.data.toList at_ x
  have h3 : n.data.data.toList.length = n.data.size := by simp
  omega)
 have HE2 : Hid ((⟨(bputT n.data.data.toList at_ x).toArray⟩ : ByteArray) = s2) := Lib.hid hs2
 rw [HE2.out] at HPP
 rw [hs2]
 have HXE := Lib.hid hxe
 clear hx hxb hxe hin hf hs2
 have HKK := Lib.hid hK
 clear hK
 clear hk hdl hln
 have HOK := Lib.hid (fun W : World => specAccessOk_any nm k at_ sz tu tg pl W hs)
 have HNO := Lib.hid (fun (W : World) (hW : Below w.heap.size w W) => specNodeOk_a m n h W S (hn.below hW) htn)
 rw [hA] at HOK
 rw [hO] at HNO
 unfold accV at HOK ⊢
 have q0 := al_first w (.cells #[.string nm, .int .i64 k, .int .i64 at_, .int .i64 sz, .int .i64 tu, .int .i64 tg, .int .i64 pl] accT)
 have q1 := al_next q0 (.cells #[.int .i64 n.kind, .string n.data, .slice h.A n.ptrs.length h.a, .int .i64 n.size, .int .i64 n.count, .slice h.B n.items.length h.b] nodeT)
 have q2 := al_next q1 (.cells #[.int .i64 0, .string { data := #[] }, .slice none 0 0, .int .i64 0, .int .i64 0, .slice none 0 0] nodeT)
 have r0 := heap_alloc_keep (heap_alloc_keep (heap_alloc_new w (.cells #[.string nm, .int .i64 k, .int .i64 at_, .int .i64 sz, .int .i64 tu, .int .i64 tg, .int .i64 pl] accT)) (.cells #[.int .i64 n.kind, .string n.data, .slice h.A n.ptrs.length h.a, .int .i64 n.size, .int .i64 n.count, .slice h.B n.items.length h.b] nodeT)) (.cells #[.int .i64 0, .string { data := #[] }, .slice none 0 0, .int .i64 0, .int .i64 0, .slice none 0 0] nodeT)
 have r1 := heap_alloc_keep (al_row q0 #[.int .i64 n.kind, .string n.data, .slice h.A n.ptrs.length h.a, .int .i64 n.size, .int .i64 n.count, .slice h.B n.items.length h.b] nodeT) (.cells #[.int .i64 0, .string { data := #[] }, .slice none 0 0, .int .i64 0, .int .i64 0, .slice none 0 0] nodeT)
 have r2 := al_row q1 #[.int .i64 0, .string { data := #[] }, .slice none 0 0, .int .i64 0, .int .i64 0, .slice none 0 0] nodeT
 rw [show w.heap.size + (1 + 1) = w.heap.size + 1 + 1 from rfl] at r2
 have HB0 := Lib.hid q2.2
 have R0 := Lib.hid r0
 have R1 := Lib.hid r1
 have R2 := Lib.hid r2
 obtain ⟨a0, a1, a2, a3, a4, a5, a6⟩ := cellsV r0
 clear q2 q1 q0 r0 r1 r2 hn htn hA hs
 go_enter Try.func16, Try.ntmps16
 go_wp2_with fail
 generalize ((w.alloc (.cells #[.string nm, .int .i64 k, .int .i64 at_, .int .i64 sz, .int .i64 tu, .int .i64 tg, .int .i64 pl] accT)).alloc (.cells #[.int .i64 n.kind, .string n.data, .slice h.A n.ptrs.length h.a, .int .i64 n.size, .int .i64 n.count, .slice h.B n.items.length h.b] nodeT)).alloc (.cells #[.int .i64 0, .string { data := #[] }, .slice none 0 0, .int .i64 0, .int .i64 0, .slice none 0 0] nodeT) = W at *
 clear a0 a1 a2 a3 a4 a5 a6
 refine (HOK.out W).mono ?_
 rintro e w1 ⟨rfl, hb1⟩
 have HB1 := Lib.hid (HB0.out.trans (hb1.mono HB0.out.size))
 have X0 := Lib.hid ((hb1.block _ (row_lt R0.out)).trans R0.out)
 have X1 := Lib.hid ((hb1.block _ (row_lt R1.out)).trans R1.out)
 have X2 := Lib.hid ((hb1.block _ (row_lt R2.out)).trans R2.out)
 clear hb1
 obtain ⟨n0, n1, n2, n3, n4, n5⟩ := cells6 X1.out
 obtain ⟨z0, z1, z2, z3, z4, z5⟩ := cells6 X2.out
 have zf := row_free X2.out
 go_wp2_with fail
 clear n0 n1 n2 n3 n4 n5 z0 z1 z2 z3 z4 z5 zf
 refine (HNO.out w1 HB1.out).mono ?_
 rintro e w2 ⟨rfl, hb2⟩
 have HB2 := Lib.hid (HB1.out.trans (hb2.mono HB1.out.size))
 have Y0 := Lib.hid ((hb2.block _ (row_lt X0.out)).trans X0.out)
 have Y1 := Lib.hid ((hb2.block _ (row_lt X1.out)).trans X1.out)
 have Y2 := Lib.hid ((hb2.block _ (row_lt X2.out)).trans X2.out)
 clear hb2
 obtain ⟨n0, n1, n2, n3, n4, n5⟩ := cells6 Y1.out
 obtain ⟨z0, z1, z2, z3, z4, z5⟩ := cells6 Y2.out
 have zf := row_free Y2.out
 go_wp2_with fail
 clear n0 n1 n2 n3 n4 n5 z0 z1 z2 z3 z4 z5 zf
 refine (HCP.out w2 HB2.out).mono ?_
 rintro e w3 ⟨h3, bs, rfl, ho, hd, hg, hb3⟩
 have hba : Below w3.heap.size w3 (w3.alloc (.cells #[.int .i64 n.kind, .string n.data, .slice h3.A n.ptrs.length h3.a, .int .i64 n.size, .int .i64 n.count, .slice h3.B n.items.length h3.b] nodeT)) := (Below.refl _ _).alloc (Nat.le_refl _) _
 have hbb : Below w2.heap.size w2 (w3.alloc (.cells #[.int .i64 n.kind, .string n.data, .slice h3.A n.ptrs.length h3.a, .int .i64 n.size, .int .i64 n.count, .slice h3.B n.items.length h3.b] nodeT)) := hb3.trans (hba.mono hb3.size)
 have HB := Lib.hid (HB2.out.trans (hbb.mono HB2.out.size))
 have C0 := Lib.hid ((hbb.block _ (row_lt Y0.out)).trans Y0.out)
 have C1 := Lib.hid ((hbb.block _ (row_lt Y1.out)).trans Y1.out)
 have C2 := Lib.hid ((hbb.block _ (row_lt Y2.out)).trans Y2.out)
 have HV := Lib.hid (heap_alloc_new w3 (.cells #[.int .i64 n.kind, .string n.data, .slice h3.A n.ptrs.length h3.a, .int .i64 n.size, .int .i64 n.count, .slice h3.B n.items.length h3.b] nodeT))
 have HO := Lib.hid (ho.below hba)
 have HG : Hid (bs.Nodup ∧ ∀ b ∈ bs, w.heap.size + 1 + 1 < b ∧ b < w3.heap.size) := Lib.hid ⟨hd, fun b hb => ⟨by have := hg b hb; have := row_lt Y2.out; omega, (ho.lt b hb).1⟩⟩
 have hvl : w.heap.size + 1 + 1 < w3.heap.size := by have := hb3.size; have := row_lt Y2.out; omega
 clear hba hbb ho hd hg hb3 Y0 Y1 Y2 X0 X1 X2 R0 R1 R2
 have hK := HKK.out
 subst hK
 obtain ⟨c0, c1, c2, c3, c4, c5, c6⟩ := cellsV C0.out
 obtain ⟨n0, n1, n2, n3, n4, n5⟩ := cells6 C1.out
 obtain ⟨z0, z1, z2, z3, z4, z5⟩ := cells6 C2.out
 have zf := row_free C2.out
 obtain ⟨v0, v1, v2, v3, v4, v5⟩ := cells6 HV.out
 have nf := row_free HV.out
 go_wp2_with fail
 generalize w3.alloc (.cells #[.int .i64 n.kind, .string n.data, .slice h3.A n.ptrs.length h3.a, .int .i64 n.size, .int .i64 n.count, .slice h3.B n.items.length h3.b] nodeT) = wp at *
 generalize w3.heap.size = vb at *
 refine (HIN.out _).mono ?_
 rintro e wi ⟨rfl, rfl⟩
 go_wp2_with fail
 try rw [HXE.out]
 clear n0 n1 n2 n3 n4 n5 z0 z1 z2 z3 z4 z5 zf nf v0 v1 v2 v3 v4 v5 c0 c1 c2 c3 c4 c5 c6
 refine (HPP.out _).mono ?_
 rintro e wy ⟨rfl, hb5⟩
 replace HV := Lib.hid ((hb5.block _ (row_lt HV.out)).trans HV.out)
 replace C0 := Lib.hid ((hb5.block _ (row_lt C0.out)).trans C0.out)
 replace C1 := Lib.hid ((hb5.block _ (row_lt C1.out)).trans C1.out)
 replace C2 := Lib.hid ((hb5.block _ (row_lt C2.out)).trans C2.out)
 replace HB := Lib.hid (HB.out.trans (hb5.mono HB.out.size))
 replace HO := Lib.hid (HO.out.below hb5)
 clear hb5
 obtain ⟨c0, c1, c2, c3, c4, c5, c6⟩ := cellsV C0.out
 obtain ⟨n0, n1, n2, n3, n4, n5⟩ := cells6 C1.out
 obtain ⟨z0, z1, z2, z3, z4, z5⟩ := cells6 C2.out
 have zf := row_free C2.out
 obtain ⟨v0, v1, v2, v3, v4, v5⟩ := cells6 HV.out
 have nf := row_free HV.out
 have hy1 := row_setN HV.out 1 (.string s2)
 simp only [List.setIfInBounds_toArray, List.set_cons_zero, List.set_cons_succ] at hy1
 have k0 := (Below.heap_setCell wy ⟨vb, 1, none⟩ (.string s2) w.heap.size (by show w.heap.size ≠ vb; omega)).trans C0.out
 have k1 := (Below.heap_setCell wy ⟨vb, 1, none⟩ (.string s2) (w.heap.size + 1) (by show w.heap.size + 1 ≠ vb; omega)).trans C1.out
 have k2 := (Below.heap_setCell wy ⟨vb, 1, none⟩ (.string s2) (w.heap.size + 1 + 1) (by show w.heap.size + 1 + 1 ≠ vb; omega)).trans C2.out
 have hbn := HB.out.setCell (p := ⟨vb, 1, none⟩) (by show w.heap.size ≤ vb; omega) (.string s2)
 have hon := (HO.out.withD (s := s2) (Hs2.out)).frame (w' := wy.setCell ⟨vb, 1, none⟩ (.string s2)) (fun b hb => Below.heap_setCell wy ⟨vb, 1, none⟩ (.string s2) b (by have := HG.out.2 b hb; show b ≠ vb; omega))
 obtain ⟨wv, hwx⟩ : ∃ wv, wy.setCell ⟨vb, 1, none⟩ (.string s2) = wv := ⟨_, rfl⟩
 rw [hwx] at hy1 k0 k1 k2 hbn hon
 replace HV := Lib.hid hy1
 replace C0 := Lib.hid k0
 replace C1 := Lib.hid k1
 replace C2 := Lib.hid k2
 replace HB := Lib.hid hbn
 replace HO := Lib.hid hon
 obtain ⟨p0, p1, p2, p3, p4, p5⟩ := cells6 hy1
 obtain ⟨r0, r1, r2, r3, r4, r5, r6⟩ := cellsV k0
 obtain ⟨s0, s1', s2', s3, s4, s5⟩ := cells6 k1
 obtain ⟨t0, t1, t2, t3, t4, t5⟩ := cells6 k2
 have tf := row_free k2
 have pf := row_free hy1
 clear hy1 k0 k1 k2 hbn hon
 go_wp2_with fail
 clear p0 p1 p2 p3 p4 p5 r0 r1 r2 r3 r4 r5 r6 s0 s1' s2' s3 s4 s5 t0 t1 t2 t3 t4 t5 tf pf hwx
 clear n0 n1 n2 n3 n4 n5 z0 z1 z2 z3 z4 z5 zf nf v0 v1 v2 v3 v4 v5 c0 c1 c2 c3 c4 c5 c6
 obtain ⟨wf, hwf, hrw, hbf, hkf⟩ := finN (w := w) (R := w.heap.size) (.int .i64 n.kind) (.string s2) (.slice h3.A n.ptrs.length h3.a) (.int .i64 n.size) (.int .i64 n.count) (.slice h3.B n.items.length h3.b) C2.out HB.out (by omega)
 rw [hwf]
 obtain ⟨e0, e1, e2, e3, e4, e5⟩ := cells6 hrw
 exact bodyPost_ret (v := .tuple #[.agg #[.int .i64 n.kind, .string s2, .slice h3.A n.ptrs.length h3.a, .int .i64 n.size, .int .i64 n.count, .slice h3.B n.items.length h3.b], .bool true]) (by simp [results, Try.results16, go_sem, e0, e1, e2, e3, e4, e5]) rfl ⟨h3, bs, rfl, OwN.frame (n := withD n s2) HO.out (fun b hb => hkf _ (by have := HG.out.2 b hb; omega)), HG.out.1, fun b hb => by have := HG.out.2 b hb; omega, hbf⟩
theorem spPut_U2out (nm : ByteArray) (k at_ sz tu tg pl num : Int) (m : Nat) (n : Nd) (h : Hd) (w : World) (S : Nat → Prop) (hs : nm.size ≤ maxLen) (hn : NdAt w S m n h) (htn : totN m n ≤ 2000000) (hA : accB nm k at_ sz tu tg pl = true) (hO : nodeOk n = true) (hk : n.kind = 1) (htg : tg < 0) (hK : k = 2) (hz : sz = 1 ∨ sz = 2 ∨ sz = 4 ∨ sz = 8) (hin : fitsB num sz = false) :
 Calls Try.prog 16 #[accV nm k at_ sz tu tg pl, .agg #[.int .i64 n.kind, .string n.data, .slice h.A n.ptrs.length h.a, .int .i64 n.size, .int .i64 n.count, .slice h.B n.items.length h.b], .int .i64 num] w (NewNP (m + 1) n false w) := by
 have hk1 : (n.kind != 1) = false := by simp [hk]
 have hdl : n.data.size ≤ maxLen := hn.1
 have hln : (byL n).length = n.data.size := by simp
 have HCP := Lib.hid (fun (W : World) (hW : Below w.heap.size w W) => cpN_any m n h W S (hn.below hW) htn)
 unfold NewO at HCP
 have hge2 : decide (0 ≤ tg) = false := by simp; omega
 have hge : ¬ 0 ≤ tg := by omega
 have hxb := xorI_bd num tu
 have HX : Hid (xorI num tu = bits .xor .i64 num tu) := Lib.hid rfl
 obtain ⟨x, hx⟩ : ∃ x, xorI num tu = x := ⟨_, rfl⟩
 rw [hx] at hxb HX
 have hxe := HX.out.symm
 have HIN := Lib.hid (fun W : World => l1Fits_any num sz W hz)
 rw [hin] at HIN
 have HXE := Lib.hid hxe
 clear hx hxb hxe hin hz
 have HKK := Lib.hid hK
 clear hK
 clear hk hdl hln
 have HOK := Lib.hid (fun W : World => specAccessOk_any nm k at_ sz tu tg pl W hs)
 have HNO := Lib.hid (fun (W : World) (hW : Below w.heap.size w W) => specNodeOk_a m n h W S (hn.below hW) htn)
 rw [hA] at HOK
 rw [hO] at HNO
 unfold accV at HOK ⊢
 have q0 := al_first w (.cells #[.string nm, .int .i64 k, .int .i64 at_, .int .i64 sz, .int .i64 tu, .int .i64 tg, .int .i64 pl] accT)
 have q1 := al_next q0 (.cells #[.int .i64 n.kind, .string n.data, .slice h.A n.ptrs.length h.a, .int .i64 n.size, .int .i64 n.count, .slice h.B n.items.length h.b] nodeT)
 have q2 := al_next q1 (.cells #[.int .i64 0, .string { data := #[] }, .slice none 0 0, .int .i64 0, .int .i64 0, .slice none 0 0] nodeT)
 have r0 := heap_alloc_keep (heap_alloc_keep (heap_alloc_new w (.cells #[.string nm, .int .i64 k, .int .i64 at_, .int .i64 sz, .int .i64 tu, .int .i64 tg, .int .i64 pl] accT)) (.cells #[.int .i64 n.kind, .string n.data, .slice h.A n.ptrs.length h.a, .int .i64 n.size, .int .i64 n.count, .slice h.B n.items.length h.b] nodeT)) (.cells #[.int .i64 0, .string { data := #[] }, .slice none 0 0, .int .i64 0, .int .i64 0, .slice none 0 0] nodeT)
 have r1 := heap_alloc_keep (al_row q0 #[.int .i64 n.kind, .string n.data, .slice h.A n.ptrs.length h.a, .int .i64 n.size, .int .i64 n.count, .slice h.B n.items.length h.b] nodeT) (.cells #[.int .i64 0, .string { data := #[] }, .slice none 0 0, .int .i64 0, .int .i64 0, .slice none 0 0] nodeT)
 have r2 := al_row q1 #[.int .i64 0, .string { data := #[] }, .slice none 0 0, .int .i64 0, .int .i64 0, .slice none 0 0] nodeT
 rw [show w.heap.size + (1 + 1) = w.heap.size + 1 + 1 from rfl] at r2
 have HB0 := Lib.hid q2.2
 have R0 := Lib.hid r0
 have R1 := Lib.hid r1
 have R2 := Lib.hid r2
 obtain ⟨a0, a1, a2, a3, a4, a5, a6⟩ := cellsV r0
 clear q2 q1 q0 r0 r1 r2 hn htn hA hs
 go_enter Try.func16, Try.ntmps16
 go_wp2_with fail
 generalize ((w.alloc (.cells #[.string nm, .int .i64 k, .int .i64 at_, .int .i64 sz, .int .i64 tu, .int .i64 tg, .int .i64 pl] accT)).alloc (.cells #[.int .i64 n.kind, .string n.data, .slice h.A n.ptrs.length h.a, .int .i64 n.size, .int .i64 n.count, .slice h.B n.items.length h.b] nodeT)).alloc (.cells #[.int .i64 0, .string { data := #[] }, .slice none 0 0, .int .i64 0, .int .i64 0, .slice none 0 0] nodeT) = W at *
 clear a0 a1 a2 a3 a4 a5 a6
 refine (HOK.out W).mono ?_
 rintro e w1 ⟨rfl, hb1⟩
 have HB1 := Lib.hid (HB0.out.trans (hb1.mono HB0.out.size))
 have X0 := Lib.hid ((hb1.block _ (row_lt R0.out)).trans R0.out)
 have X1 := Lib.hid ((hb1.block _ (row_lt R1.out)).trans R1.out)
 have X2 := Lib.hid ((hb1.block _ (row_lt R2.out)).trans R2.out)
 clear hb1
 obtain ⟨n0, n1, n2, n3, n4, n5⟩ := cells6 X1.out
 obtain ⟨z0, z1, z2, z3, z4, z5⟩ := cells6 X2.out
 have zf := row_free X2.out
 go_wp2_with fail
 clear n0 n1 n2 n3 n4 n5 z0 z1 z2 z3 z4 z5 zf
 refine (HNO.out w1 HB1.out).mono ?_
 rintro e w2 ⟨rfl, hb2⟩
 have HB2 := Lib.hid (HB1.out.trans (hb2.mono HB1.out.size))
 have Y0 := Lib.hid ((hb2.block _ (row_lt X0.out)).trans X0.out)
 have Y1 := Lib.hid ((hb2.block _ (row_lt X1.out)).trans X1.out)
 have Y2 := Lib.hid ((hb2.block _ (row_lt X2.out)).trans X2.out)
 clear hb2
 obtain ⟨n0, n1, n2, n3, n4, n5⟩ := cells6 Y1.out
 obtain ⟨z0, z1, z2, z3, z4, z5⟩ := cells6 Y2.out
 have zf := row_free Y2.out
 go_wp2_with fail
 clear n0 n1 n2 n3 n4 n5 z0 z1 z2 z3 z4 z5 zf
 refine (HCP.out w2 HB2.out).mono ?_
 rintro e w3 ⟨h3, bs, rfl, ho, hd, hg, hb3⟩
 have hba : Below w3.heap.size w3 (w3.alloc (.cells #[.int .i64 n.kind, .string n.data, .slice h3.A n.ptrs.length h3.a, .int .i64 n.size, .int .i64 n.count, .slice h3.B n.items.length h3.b] nodeT)) := (Below.refl _ _).alloc (Nat.le_refl _) _
 have hbb : Below w2.heap.size w2 (w3.alloc (.cells #[.int .i64 n.kind, .string n.data, .slice h3.A n.ptrs.length h3.a, .int .i64 n.size, .int .i64 n.count, .slice h3.B n.items.length h3.b] nodeT)) := hb3.trans (hba.mono hb3.size)
 have HB := Lib.hid (HB2.out.trans (hbb.mono HB2.out.size))
 have C0 := Lib.hid ((hbb.block _ (row_lt Y0.out)).trans Y0.out)
 have C1 := Lib.hid ((hbb.block _ (row_lt Y1.out)).trans Y1.out)
 have C2 := Lib.hid ((hbb.block _ (row_lt Y2.out)).trans Y2.out)
 have HV := Lib.hid (heap_alloc_new w3 (.cells #[.int .i64 n.kind, .string n.data, .slice h3.A n.ptrs.length h3.a, .int .i64 n.size, .int .i64 n.count, .slice h3.B n.items.length h3.b] nodeT))
 have HO := Lib.hid (ho.below hba)
 have HG : Hid (bs.Nodup ∧ ∀ b ∈ bs, w.heap.size + 1 + 1 < b ∧ b < w3.heap.size) := Lib.hid ⟨hd, fun b hb => ⟨by have := hg b hb; have := row_lt Y2.out; omega, (ho.lt b hb).1⟩⟩
 have hvl : w.heap.size + 1 + 1 < w3.heap.size := by have := hb3.size; have := row_lt Y2.out; omega
 clear hba hbb ho hd hg hb3 Y0 Y1 Y2 X0 X1 X2 R0 R1 R2
 have hK := HKK.out
 subst hK
 obtain ⟨c0, c1, c2, c3, c4, c5, c6⟩ := cellsV C0.out
 obtain ⟨n0, n1, n2, n3, n4, n5⟩ := cells6 C1.out
 obtain ⟨z0, z1, z2, z3, z4, z5⟩ := cells6 C2.out
 have zf := row_free C2.out
 obtain ⟨v0, v1, v2, v3, v4, v5⟩ := cells6 HV.out
 have nf := row_free HV.out
 go_wp2_with fail
 generalize w3.alloc (.cells #[.int .i64 n.kind, .string n.data, .slice h3.A n.ptrs.length h3.a, .int .i64 n.size, .int .i64 n.count, .slice h3.B n.items.length h3.b] nodeT) = wp at *
 generalize w3.heap.size = vb at *
 refine (HIN.out _).mono ?_
 rintro e wi ⟨rfl, rfl⟩
 go_wp2_with fail
 refine (HCP.out _ HB.out).mono ?_
 rintro e wq ⟨h9, bs9, rfl, ho9, hd9, hg9, hb9⟩
 have hz9 := (hb9.block _ (row_lt C2.out)).trans C2.out
 have HZ9 := Lib.hid hz9
 have HB9 := Lib.hid (HB.out.trans (hb9.mono HB.out.size))
 have HO9 := Lib.hid ho9
 have HG9 : Hid (bs9.Nodup ∧ ∀ b ∈ bs9, w.heap.size + 1 + 1 < b) := Lib.hid ⟨hd9, fun b hb => by have := hg9 b hb; have := row_lt C2.out; omega⟩
 clear n0 n1 n2 n3 n4 n5 z0 z1 z2 z3 z4 z5 zf nf v0 v1 v2 v3 v4 v5 c0 c1 c2 c3 c4 c5 c6
 obtain ⟨z0, z1, z2, z3, z4, z5⟩ := cells6 hz9
 have zf := row_free hz9
 clear ho9 hd9 hg9 hb9 hz9
 go_wp2_with fail
 obtain ⟨wf, hwf, hrw, hbf, hkf⟩ := finN (w := w) (R := w.heap.size) (.int .i64 n.kind) (.string n.data) (.slice h9.A n.ptrs.length h9.a) (.int .i64 n.size) (.int .i64 n.count) (.slice h9.B n.items.length h9.b) HZ9.out HB9.out (by omega)
 rw [hwf]
 obtain ⟨e0, e1, e2, e3, e4, e5⟩ := cells6 hrw
 exact bodyPost_ret (v := .tuple #[.agg #[.int .i64 n.kind, .string n.data, .slice h9.A n.ptrs.length h9.a, .int .i64 n.size, .int .i64 n.count, .slice h9.B n.items.length h9.b], .bool false]) (by simp [results, Try.results16, go_sem, e0, e1, e2, e3, e4, e5]) rfl ⟨h9, bs9, rfl, HO9.out.frame (fun b hb => hkf _ (by have := HG9.out.2 b hb; omega)), HG9.out.1, fun b hb => by have := HG9.out.2 b hb; omega, hbf⟩
theorem spPut_U2no (nm : ByteArray) (k at_ sz tu tg pl num : Int) (m : Nat) (n : Nd) (h : Hd) (w : World) (S : Nat → Prop) (hs : nm.size ≤ maxLen) (hn : NdAt w S m n h) (htn : totN m n ≤ 2000000) (hA : accB nm k at_ sz tu tg pl = true) (hO : nodeOk n = true) (hk : n.kind = 1) (htg : tg < 0) (hK : k = 2) (hz : sz = 1 ∨ sz = 2 ∨ sz = 4 ∨ sz = 8) (hin : fitsB num sz = true) (hf : putB (byL n) at_ sz (xorI num tu) = false) :
 Calls Try.prog 16 #[accV nm k at_ sz tu tg pl, .agg #[.int .i64 n.kind, .string n.data, .slice h.A n.ptrs.length h.a, .int .i64 n.size, .int .i64 n.count, .slice h.B n.items.length h.b], .int .i64 num] w (NewNP (m + 1) n false w) := by
 have hk1 : (n.kind != 1) = false := by simp [hk]
 have hdl : n.data.size ≤ maxLen := hn.1
 have hln : (byL n).length = n.data.size := by simp
 have HCP := Lib.hid (fun (W : World) (hW : Below w.heap.size w W) => cpN_any m n h W S (hn.below hW) htn)
 unfold NewO at HCP
 have hge2 : decide (0 ≤ tg) = false := by simp; omega
 have hge : ¬ 0 ≤ tg := by omega
 have hxb := xorI_bd num tu
 have HX : Hid (xorI num tu = bits .xor .i64 num tu) := Lib.hid rfl
 obtain ⟨x, hx⟩ : ∃ x, xorI num tu = x := ⟨_, rfl⟩
 rw [hx] at hf
 rw [hx] at hxb HX
 have hxe := HX.out.symm
 have HIN := Lib.hid (fun W : World => l1Fits_any num sz W hz)
 rw [hin] at HIN
 have HPP := Lib.hid (fun W : World => specPut_any n.data at_ sz x W hdl (by omega))
 rw [hf] at HPP
 obtain ⟨s2, hs2⟩ : ∃ s2, baL (putT n.data.data.toList at_ sz x) = s2 := ⟨_, rfl⟩
 have Hs2 : Hid (s2.size ≤ maxLen) := Lib.hid (by
  rw [← hs2, baL_size]
  have := put_bd n.data.data.toList at_ sz x
  have h3 : n.data.data.toList.length = n.data.size := by simp
  omega)
 have HE2 : Hid ((⟨(putT n.data.data.toList at_ sz x).toArray⟩ : ByteArray) = s2) := Lib.hid hs2
 rw [HE2.out] at HPP
 have HXE := Lib.hid hxe
 clear hx hxb hxe hin hz hf hs2
 have HKK := Lib.hid hK
 clear hK
 clear hk hdl hln
 have HOK := Lib.hid (fun W : World => specAccessOk_any nm k at_ sz tu tg pl W hs)
 have HNO := Lib.hid (fun (W : World) (hW : Below w.heap.size w W) => specNodeOk_a m n h W S (hn.below hW) htn)
 rw [hA] at HOK
 rw [hO] at HNO
 unfold accV at HOK ⊢
 have q0 := al_first w (.cells #[.string nm, .int .i64 k, .int .i64 at_, .int .i64 sz, .int .i64 tu, .int .i64 tg, .int .i64 pl] accT)
 have q1 := al_next q0 (.cells #[.int .i64 n.kind, .string n.data, .slice h.A n.ptrs.length h.a, .int .i64 n.size, .int .i64 n.count, .slice h.B n.items.length h.b] nodeT)
 have q2 := al_next q1 (.cells #[.int .i64 0, .string { data := #[] }, .slice none 0 0, .int .i64 0, .int .i64 0, .slice none 0 0] nodeT)
 have r0 := heap_alloc_keep (heap_alloc_keep (heap_alloc_new w (.cells #[.string nm, .int .i64 k, .int .i64 at_, .int .i64 sz, .int .i64 tu, .int .i64 tg, .int .i64 pl] accT)) (.cells #[.int .i64 n.kind, .string n.data, .slice h.A n.ptrs.length h.a, .int .i64 n.size, .int .i64 n.count, .slice h.B n.items.length h.b] nodeT)) (.cells #[.int .i64 0, .string { data := #[] }, .slice none 0 0, .int .i64 0, .int .i64 0, .slice none 0 0] nodeT)
 have r1 := heap_alloc_keep (al_row q0 #[.int .i64 n.kind, .string n.data, .slice h.A n.ptrs.length h.a, .int .i64 n.size, .int .i64 n.count, .slice h.B n.items.length h.b] nodeT) (.cells #[.int .i64 0, .string { data := #[] }, .slice none 0 0, .int .i64 0, .int .i64 0, .slice none 0 0] nodeT)
 have r2 := al_row q1 #[.int .i64 0, .string { data := #[] }, .slice none 0 0, .int .i64 0, .int .i64 0, .slice none 0 0] nodeT
 rw [show w.heap.size + (1 + 1) = w.heap.size + 1 + 1 from rfl] at r2
 have HB0 := Lib.hid q2.2
 have R0 := Lib.hid r0
 have R1 := Lib.hid r1
 have R2 := Lib.hid r2
 obtain ⟨a0, a1, a2, a3, a4, a5, a6⟩ := cellsV r0
 clear q2 q1 q0 r0 r1 r2 hn htn hA hs
 go_enter Try.func16, Try.ntmps16
 go_wp2_with fail
 generalize ((w.alloc (.cells #[.string nm, .int .i64 k, .int .i64 at_, .int .i64 sz, .int .i64 tu, .int .i64 tg, .int .i64 pl] accT)).alloc (.cells #[.int .i64 n.kind, .string n.data, .slice h.A n.ptrs.length h.a, .int .i64 n.size, .int .i64 n.count, .slice h.B n.items.length h.b] nodeT)).alloc (.cells #[.int .i64 0, .string { data := #[] }, .slice none 0 0, .int .i64 0, .int .i64 0, .slice none 0 0] nodeT) = W at *
 clear a0 a1 a2 a3 a4 a5 a6
 refine (HOK.out W).mono ?_
 rintro e w1 ⟨rfl, hb1⟩
 have HB1 := Lib.hid (HB0.out.trans (hb1.mono HB0.out.size))
 have X0 := Lib.hid ((hb1.block _ (row_lt R0.out)).trans R0.out)
 have X1 := Lib.hid ((hb1.block _ (row_lt R1.out)).trans R1.out)
 have X2 := Lib.hid ((hb1.block _ (row_lt R2.out)).trans R2.out)
 clear hb1
 obtain ⟨n0, n1, n2, n3, n4, n5⟩ := cells6 X1.out
 obtain ⟨z0, z1, z2, z3, z4, z5⟩ := cells6 X2.out
 have zf := row_free X2.out
 go_wp2_with fail
 clear n0 n1 n2 n3 n4 n5 z0 z1 z2 z3 z4 z5 zf
 refine (HNO.out w1 HB1.out).mono ?_
 rintro e w2 ⟨rfl, hb2⟩
 have HB2 := Lib.hid (HB1.out.trans (hb2.mono HB1.out.size))
 have Y0 := Lib.hid ((hb2.block _ (row_lt X0.out)).trans X0.out)
 have Y1 := Lib.hid ((hb2.block _ (row_lt X1.out)).trans X1.out)
 have Y2 := Lib.hid ((hb2.block _ (row_lt X2.out)).trans X2.out)
 clear hb2
 obtain ⟨n0, n1, n2, n3, n4, n5⟩ := cells6 Y1.out
 obtain ⟨z0, z1, z2, z3, z4, z5⟩ := cells6 Y2.out
 have zf := row_free Y2.out
 go_wp2_with fail
 clear n0 n1 n2 n3 n4 n5 z0 z1 z2 z3 z4 z5 zf
 refine (HCP.out w2 HB2.out).mono ?_
 rintro e w3 ⟨h3, bs, rfl, ho, hd, hg, hb3⟩
 have hba : Below w3.heap.size w3 (w3.alloc (.cells #[.int .i64 n.kind, .string n.data, .slice h3.A n.ptrs.length h3.a, .int .i64 n.size, .int .i64 n.count, .slice h3.B n.items.length h3.b] nodeT)) := (Below.refl _ _).alloc (Nat.le_refl _) _
 have hbb : Below w2.heap.size w2 (w3.alloc (.cells #[.int .i64 n.kind, .string n.data, .slice h3.A n.ptrs.length h3.a, .int .i64 n.size, .int .i64 n.count, .slice h3.B n.items.length h3.b] nodeT)) := hb3.trans (hba.mono hb3.size)
 have HB := Lib.hid (HB2.out.trans (hbb.mono HB2.out.size))
 have C0 := Lib.hid ((hbb.block _ (row_lt Y0.out)).trans Y0.out)
 have C1 := Lib.hid ((hbb.block _ (row_lt Y1.out)).trans Y1.out)
 have C2 := Lib.hid ((hbb.block _ (row_lt Y2.out)).trans Y2.out)
 have HV := Lib.hid (heap_alloc_new w3 (.cells #[.int .i64 n.kind, .string n.data, .slice h3.A n.ptrs.length h3.a, .int .i64 n.size, .int .i64 n.count, .slice h3.B n.items.length h3.b] nodeT))
 have HO := Lib.hid (ho.below hba)
 have HG : Hid (bs.Nodup ∧ ∀ b ∈ bs, w.heap.size + 1 + 1 < b ∧ b < w3.heap.size) := Lib.hid ⟨hd, fun b hb => ⟨by have := hg b hb; have := row_lt Y2.out; omega, (ho.lt b hb).1⟩⟩
 have hvl : w.heap.size + 1 + 1 < w3.heap.size := by have := hb3.size; have := row_lt Y2.out; omega
 clear hba hbb ho hd hg hb3 Y0 Y1 Y2 X0 X1 X2 R0 R1 R2
 have hK := HKK.out
 subst hK
 obtain ⟨c0, c1, c2, c3, c4, c5, c6⟩ := cellsV C0.out
 obtain ⟨n0, n1, n2, n3, n4, n5⟩ := cells6 C1.out
 obtain ⟨z0, z1, z2, z3, z4, z5⟩ := cells6 C2.out
 have zf := row_free C2.out
 obtain ⟨v0, v1, v2, v3, v4, v5⟩ := cells6 HV.out
 have nf := row_free HV.out
 go_wp2_with fail
 generalize w3.alloc (.cells #[.int .i64 n.kind, .string n.data, .slice h3.A n.ptrs.length h3.a, .int .i64 n.size, .int .i64 n.count, .slice h3.B n.items.length h3.b] nodeT) = wp at *
 generalize w3.heap.size = vb at *
 refine (HIN.out _).mono ?_
 rintro e wi ⟨rfl, rfl⟩
 go_wp2_with fail
 try rw [HXE.out]
 clear n0 n1 n2 n3 n4 n5 z0 z1 z2 z3 z4 z5 zf nf v0 v1 v2 v3 v4 v5 c0 c1 c2 c3 c4 c5 c6
 refine (HPP.out _).mono ?_
 rintro e wy ⟨rfl, hb5⟩
 replace HV := Lib.hid ((hb5.block _ (row_lt HV.out)).trans HV.out)
 replace C0 := Lib.hid ((hb5.block _ (row_lt C0.out)).trans C0.out)
 replace C1 := Lib.hid ((hb5.block _ (row_lt C1.out)).trans C1.out)
 replace C2 := Lib.hid ((hb5.block _ (row_lt C2.out)).trans C2.out)
 replace HB := Lib.hid (HB.out.trans (hb5.mono HB.out.size))
 replace HO := Lib.hid (HO.out.below hb5)
 clear hb5
 obtain ⟨c0, c1, c2, c3, c4, c5, c6⟩ := cellsV C0.out
 obtain ⟨n0, n1, n2, n3, n4, n5⟩ := cells6 C1.out
 obtain ⟨z0, z1, z2, z3, z4, z5⟩ := cells6 C2.out
 have zf := row_free C2.out
 obtain ⟨v0, v1, v2, v3, v4, v5⟩ := cells6 HV.out
 have nf := row_free HV.out
 have hy1 := row_setN HV.out 1 (.string s2)
 simp only [List.setIfInBounds_toArray, List.set_cons_zero, List.set_cons_succ] at hy1
 have k0 := (Below.heap_setCell wy ⟨vb, 1, none⟩ (.string s2) w.heap.size (by show w.heap.size ≠ vb; omega)).trans C0.out
 have k1 := (Below.heap_setCell wy ⟨vb, 1, none⟩ (.string s2) (w.heap.size + 1) (by show w.heap.size + 1 ≠ vb; omega)).trans C1.out
 have k2 := (Below.heap_setCell wy ⟨vb, 1, none⟩ (.string s2) (w.heap.size + 1 + 1) (by show w.heap.size + 1 + 1 ≠ vb; omega)).trans C2.out
 have hbn := HB.out.setCell (p := ⟨vb, 1, none⟩) (by show w.heap.size ≤ vb; omega) (.string s2)
 have hon := (HO.out.withD (s := s2) (Hs2.out)).frame (w' := wy.setCell ⟨vb, 1, none⟩ (.string s2)) (fun b hb => Below.heap_setCell wy ⟨vb, 1, none⟩ (.string s2) b (by have := HG.out.2 b hb; show b ≠ vb; omega))
 obtain ⟨wv, hwx⟩ : ∃ wv, wy.setCell ⟨vb, 1, none⟩ (.string s2) = wv := ⟨_, rfl⟩
 rw [hwx] at hy1 k0 k1 k2 hbn hon
 replace HV := Lib.hid hy1
 replace C0 := Lib.hid k0
 replace C1 := Lib.hid k1
 replace C2 := Lib.hid k2
 replace HB := Lib.hid hbn
 replace HO := Lib.hid hon
 obtain ⟨p0, p1, p2, p3, p4, p5⟩ := cells6 hy1
 obtain ⟨r0, r1, r2, r3, r4, r5, r6⟩ := cellsV k0
 obtain ⟨s0, s1', s2', s3, s4, s5⟩ := cells6 k1
 obtain ⟨t0, t1, t2, t3, t4, t5⟩ := cells6 k2
 have tf := row_free k2
 have pf := row_free hy1
 clear hy1 k0 k1 k2 hbn hon
 go_wp2_with fail
 clear p0 p1 p2 p3 p4 p5 r0 r1 r2 r3 r4 r5 r6 s0 s1' s2' s3 s4 s5 t0 t1 t2 t3 t4 t5 tf pf hwx
 clear n0 n1 n2 n3 n4 n5 z0 z1 z2 z3 z4 z5 zf nf v0 v1 v2 v3 v4 v5 c0 c1 c2 c3 c4 c5 c6
 obtain ⟨c0, c1, c2, c3, c4, c5, c6⟩ := cellsV C0.out
 obtain ⟨n0, n1, n2, n3, n4, n5⟩ := cells6 C1.out
 obtain ⟨z0, z1, z2, z3, z4, z5⟩ := cells6 C2.out
 have zf := row_free C2.out
 obtain ⟨v0, v1, v2, v3, v4, v5⟩ := cells6 HV.out
 have nf := row_free HV.out
 refine (HCP.out _ HB.out).mono ?_
 rintro e wq ⟨h9, bs9, rfl, ho9, hd9, hg9, hb9⟩
 have hz9 := (hb9.block _ (row_lt C2.out)).trans C2.out
 have HZ9 := Lib.hid hz9
 have HB9 := Lib.hid (HB.out.trans (hb9.mono HB.out.size))
 have HO9 := Lib.hid ho9
 have HG9 : Hid (bs9.Nodup ∧ ∀ b ∈ bs9, w.heap.size + 1 + 1 < b) := Lib.hid ⟨hd9, fun b hb => by have := hg9 b hb; have := row_lt C2.out; omega⟩
 clear n0 n1 n2 n3 n4 n5 z0 z1 z2 z3 z4 z5 zf nf v0 v1 v2 v3 v4 v5 c0 c1 c2 c3 c4 c5 c6
 obtain ⟨z0, z1, z2, z3, z4, z5⟩ := cells6 hz9
 have zf := row_free hz9
 clear ho9 hd9 hg9 hb9 hz9
 go_wp2_with fail
 obtain ⟨wf, hwf, hrw, hbf, hkf⟩ := finN (w := w) (R := w.heap.size) (.int .i64 n.kind) (.string n.data) (.slice h9.A n.ptrs.length h9.a) (.int .i64 n.size) (.int .i64 n.count) (.slice h9.B n.items.length h9.b) HZ9.out HB9.out (by omega)
 rw [hwf]
 obtain ⟨e0, e1, e2, e3, e4, e5⟩ := cells6 hrw
 exact bodyPost_ret (v := .tuple #[.agg #[.int .i64 n.kind, .string n.data, .slice h9.A n.ptrs.length h9.a, .int .i64 n.size, .int .i64 n.count, .slice h9.B n.items.length h9.b], .bool false]) (by simp [results, Try.results16, go_sem, e0, e1, e2, e3, e4, e5]) rfl ⟨h9, bs9, rfl, HO9.out.frame (fun b hb => hkf _ (by have := HG9.out.2 b hb; omega)), HG9.out.1, fun b hb => by have := HG9.out.2 b hb; omega, hbf⟩
theorem spPut_U2yes (nm : ByteArray) (k at_ sz tu tg pl num : Int) (m : Nat) (n : Nd) (h : Hd) (w : World) (S : Nat → Prop) (hs : nm.size ≤ maxLen) (hn : NdAt w S m n h) (htn : totN m n ≤ 2000000) (hA : accB nm k at_ sz tu tg pl = true) (hO : nodeOk n = true) (hk : n.kind = 1) (htg : tg < 0) (hK : k = 2) (hz : sz = 1 ∨ sz = 2 ∨ sz = 4 ∨ sz = 8) (hin : fitsB num sz = true) (hf : putB (byL n) at_ sz (xorI num tu) = true) :
 Calls Try.prog 16 #[accV nm k at_ sz tu tg pl, .agg #[.int .i64 n.kind, .string n.data, .slice h.A n.ptrs.length h.a, .int .i64 n.size, .int .i64 n.count, .slice h.B n.items.length h.b], .int .i64 num] w (NewNP (m + 1) (withD n (baL (putT (byL n) at_ sz (xorI num tu)))) true w) := by
 have hk1 : (n.kind != 1) = false := by simp [hk]
 have hdl : n.data.size ≤ maxLen := hn.1
 have hln : (byL n).length = n.data.size := by simp
 have HCP := Lib.hid (fun (W : World) (hW : Below w.heap.size w W) => cpN_any m n h W S (hn.below hW) htn)
 unfold NewO at HCP
 have hge2 : decide (0 ≤ tg) = false := by simp; omega
 have hge : ¬ 0 ≤ tg := by omega
 have hxb := xorI_bd num tu
 have HX : Hid (xorI num tu = bits .xor .i64 num tu) := Lib.hid rfl
 obtain ⟨x, hx⟩ : ∃ x, xorI num tu = x := ⟨_, rfl⟩
 rw [hx] at hf
 rw [hx] at hxb HX ⊢
 have hxe := HX.out.symm
 have HIN := Lib.hid (fun W : World => l1Fits_any num sz W hz)
 rw [hin] at HIN
 have HPP := Lib.hid (fun W : World => specPut_any n.data at_ sz x W hdl (by omega))
 rw [hf] at HPP
 obtain ⟨s2, hs2⟩ : ∃ s2, baL (putT n.data.data.toList at_ sz x) = s2 := ⟨_, rfl⟩
 have Hs2 : Hid (s2.size ≤ maxLen) := Lib.hid (by
  rw [← hs2, baL_size]
  have := put_bd n.data.data.toList at_ sz x
  have h3 : n.data.data.toList.length = n.data.size := by simp
  omega)
 have HE2 : Hid ((⟨(putT n.data.data.toList at_ sz x).toArray⟩ : ByteArray) = s2) := Lib.hid hs2
 rw [HE2.out] at HPP
 rw [hs2]
 have HXE := Lib.hid hxe
 clear hx hxb hxe hin hz hf hs2
 have HKK := Lib.hid hK
 clear hK
 clear hk hdl hln
 have HOK := Lib.hid (fun W : World => specAccessOk_any nm k at_ sz tu tg pl W hs)
 have HNO := Lib.hid (fun (W : World) (hW : Below w.heap.size w W) => specNodeOk_a m n h W S (hn.below hW) htn)
 rw [hA] at HOK
 rw [hO] at HNO
 unfold accV at HOK ⊢
 have q0 := al_first w (.cells #[.string nm, .int .i64 k, .int .i64 at_, .int .i64 sz, .int .i64 tu, .int .i64 tg, .int .i64 pl] accT)
 have q1 := al_next q0 (.cells #[.int .i64 n.kind, .string n.data, .slice h.A n.ptrs.length h.a, .int .i64 n.size, .int .i64 n.count, .slice h.B n.items.length h.b] nodeT)
 have q2 := al_next q1 (.cells #[.int .i64 0, .string { data := #[] }, .slice none 0 0, .int .i64 0, .int .i64 0, .slice none 0 0] nodeT)
 have r0 := heap_alloc_keep (heap_alloc_keep (heap_alloc_new w (.cells #[.string nm, .int .i64 k, .int .i64 at_, .int .i64 sz, .int .i64 tu, .int .i64 tg, .int .i64 pl] accT)) (.cells #[.int .i64 n.kind, .string n.data, .slice h.A n.ptrs.length h.a, .int .i64 n.size, .int .i64 n.count, .slice h.B n.items.length h.b] nodeT)) (.cells #[.int .i64 0, .string { data := #[] }, .slice none 0 0, .int .i64 0, .int .i64 0, .slice none 0 0] nodeT)
 have r1 := heap_alloc_keep (al_row q0 #[.int .i64 n.kind, .string n.data, .slice h.A n.ptrs.length h.a, .int .i64 n.size, .int .i64 n.count, .slice h.B n.items.length h.b] nodeT) (.cells #[.int .i64 0, .string { data := #[] }, .slice none 0 0, .int .i64 0, .int .i64 0, .slice none 0 0] nodeT)
 have r2 := al_row q1 #[.int .i64 0, .string { data := #[] }, .slice none 0 0, .int .i64 0, .int .i64 0, .slice none 0 0] nodeT
 rw [show w.heap.size + (1 + 1) = w.heap.size + 1 + 1 from rfl] at r2
 have HB0 := Lib.hid q2.2
 have R0 := Lib.hid r0
 have R1 := Lib.hid r1
 have R2 := Lib.hid r2
 obtain ⟨a0, a1, a2, a3, a4, a5, a6⟩ := cellsV r0
 clear q2 q1 q0 r0 r1 r2 hn htn hA hs
 go_enter Try.func16, Try.ntmps16
 go_wp2_with fail
 generalize ((w.alloc (.cells #[.string nm, .int .i64 k, .int .i64 at_, .int .i64 sz, .int .i64 tu, .int .i64 tg, .int .i64 pl] accT)).alloc (.cells #[.int .i64 n.kind, .string n.data, .slice h.A n.ptrs.length h.a, .int .i64 n.size, .int .i64 n.count, .slice h.B n.items.length h.b] nodeT)).alloc (.cells #[.int .i64 0, .string { data := #[] }, .slice none 0 0, .int .i64 0, .int .i64 0, .slice none 0 0] nodeT) = W at *
 clear a0 a1 a2 a3 a4 a5 a6
 refine (HOK.out W).mono ?_
 rintro e w1 ⟨rfl, hb1⟩
 have HB1 := Lib.hid (HB0.out.trans (hb1.mono HB0.out.size))
 have X0 := Lib.hid ((hb1.block _ (row_lt R0.out)).trans R0.out)
 have X1 := Lib.hid ((hb1.block _ (row_lt R1.out)).trans R1.out)
 have X2 := Lib.hid ((hb1.block _ (row_lt R2.out)).trans R2.out)
 clear hb1
 obtain ⟨n0, n1, n2, n3, n4, n5⟩ := cells6 X1.out
 obtain ⟨z0, z1, z2, z3, z4, z5⟩ := cells6 X2.out
 have zf := row_free X2.out
 go_wp2_with fail
 clear n0 n1 n2 n3 n4 n5 z0 z1 z2 z3 z4 z5 zf
 refine (HNO.out w1 HB1.out).mono ?_
 rintro e w2 ⟨rfl, hb2⟩
 have HB2 := Lib.hid (HB1.out.trans (hb2.mono HB1.out.size))
 have Y0 := Lib.hid ((hb2.block _ (row_lt X0.out)).trans X0.out)
 have Y1 := Lib.hid ((hb2.block _ (row_lt X1.out)).trans X1.out)
 have Y2 := Lib.hid ((hb2.block _ (row_lt X2.out)).trans X2.out)
 clear hb2
 obtain ⟨n0, n1, n2, n3, n4, n5⟩ := cells6 Y1.out
 obtain ⟨z0, z1, z2, z3, z4, z5⟩ := cells6 Y2.out
 have zf := row_free Y2.out
 go_wp2_with fail
 clear n0 n1 n2 n3 n4 n5 z0 z1 z2 z3 z4 z5 zf
 refine (HCP.out w2 HB2.out).mono ?_
 rintro e w3 ⟨h3, bs, rfl, ho, hd, hg, hb3⟩
 have hba : Below w3.heap.size w3 (w3.alloc (.cells #[.int .i64 n.kind, .string n.data, .slice h3.A n.ptrs.length h3.a, .int .i64 n.size, .int .i64 n.count, .slice h3.B n.items.length h3.b] nodeT)) := (Below.refl _ _).alloc (Nat.le_refl _) _
 have hbb : Below w2.heap.size w2 (w3.alloc (.cells #[.int .i64 n.kind, .string n.data, .slice h3.A n.ptrs.length h3.a, .int .i64 n.size, .int .i64 n.count, .slice h3.B n.items.length h3.b] nodeT)) := hb3.trans (hba.mono hb3.size)
 have HB := Lib.hid (HB2.out.trans (hbb.mono HB2.out.size))
 have C0 := Lib.hid ((hbb.block _ (row_lt Y0.out)).trans Y0.out)
 have C1 := Lib.hid ((hbb.block _ (row_lt Y1.out)).trans Y1.out)
 have C2 := Lib.hid ((hbb.block _ (row_lt Y2.out)).trans Y2.out)
 have HV := Lib.hid (heap_alloc_new w3 (.cells #[.int .i64 n.kind, .string n.data, .slice h3.A n.ptrs.length h3.a, .int .i64 n.size, .int .i64 n.count, .slice h3.B n.items.length h3.b] nodeT))
 have HO := Lib.hid (ho.below hba)
 have HG : Hid (bs.Nodup ∧ ∀ b ∈ bs, w.heap.size + 1 + 1 < b ∧ b < w3.heap.size) := Lib.hid ⟨hd, fun b hb => ⟨by have := hg b hb; have := row_lt Y2.out; omega, (ho.lt b hb).1⟩⟩
 have hvl : w.heap.size + 1 + 1 < w3.heap.size := by have := hb3.size; have := row_lt Y2.out; omega
 clear hba hbb ho hd hg hb3 Y0 Y1 Y2 X0 X1 X2 R0 R1 R2
 have hK := HKK.out
 subst hK
 obtain ⟨c0, c1, c2, c3, c4, c5, c6⟩ := cellsV C0.out
 obtain ⟨n0, n1, n2, n3, n4, n5⟩ := cells6 C1.out
 obtain ⟨z0, z1, z2, z3, z4, z5⟩ := cells6 C2.out
 have zf := row_free C2.out
 obtain ⟨v0, v1, v2, v3, v4, v5⟩ := cells6 HV.out
 have nf := row_free HV.out
 go_wp2_with fail
 generalize w3.alloc (.cells #[.int .i64 n.kind, .string n.data, .slice h3.A n.ptrs.length h3.a, .int .i64 n.size, .int .i64 n.count, .slice h3.B n.items.length h3.b] nodeT) = wp at *
 generalize w3.heap.size = vb at *
 refine (HIN.out _).mono ?_
 rintro e wi ⟨rfl, rfl⟩
 go_wp2_with fail
 try rw [HXE.out]
 clear n0 n1 n2 n3 n4 n5 z0 z1 z2 z3 z4 z5 zf nf v0 v1 v2 v3 v4 v5 c0 c1 c2 c3 c4 c5 c6
 refine (HPP.out _).mono ?_
 rintro e wy ⟨rfl, hb5⟩
 replace HV := Lib.hid ((hb5.block _ (row_lt HV.out)).trans HV.out)
 replace C0 := Lib.hid ((hb5.block _ (row_lt C0.out)).trans C0.out)
 replace C1 := Lib.hid ((hb5.block _ (row_lt C1.out)).trans C1.out)
 replace C2 := Lib.hid ((hb5.block _ (row_lt C2.out)).trans C2.out)
 replace HB := Lib.hid (HB.out.trans (hb5.mono HB.out.size))
 replace HO := Lib.hid (HO.out.below hb5)
 clear hb5
 obtain ⟨c0, c1, c2, c3, c4, c5, c6⟩ := cellsV C0.out
 obtain ⟨n0, n1, n2, n3, n4, n5⟩ := cells6 C1.out
 obtain ⟨z0, z1, z2, z3, z4, z5⟩ := cells6 C2.out
 have zf := row_free C2.out
 obtain ⟨v0, v1, v2, v3, v4, v5⟩ := cells6 HV.out
 have nf := row_free HV.out
 have hy1 := row_setN HV.out 1 (.string s2)
 simp only [List.setIfInBounds_toArray, List.set_cons_zero, List.set_cons_succ] at hy1
 have k0 := (Below.heap_setCell wy ⟨vb, 1, none⟩ (.string s2) w.heap.size (by show w.heap.size ≠ vb; omega)).trans C0.out
 have k1 := (Below.heap_setCell wy ⟨vb, 1, none⟩ (.string s2) (w.heap.size + 1) (by show w.heap.size + 1 ≠ vb; omega)).trans C1.out
 have k2 := (Below.heap_setCell wy ⟨vb, 1, none⟩ (.string s2) (w.heap.size + 1 + 1) (by show w.heap.size + 1 + 1 ≠ vb; omega)).trans C2.out
 have hbn := HB.out.setCell (p := ⟨vb, 1, none⟩) (by show w.heap.size ≤ vb; omega) (.string s2)
 have hon := (HO.out.withD (s := s2) (Hs2.out)).frame (w' := wy.setCell ⟨vb, 1, none⟩ (.string s2)) (fun b hb => Below.heap_setCell wy ⟨vb, 1, none⟩ (.string s2) b (by have := HG.out.2 b hb; show b ≠ vb; omega))
 obtain ⟨wv, hwx⟩ : ∃ wv, wy.setCell ⟨vb, 1, none⟩ (.string s2) = wv := ⟨_, rfl⟩
 rw [hwx] at hy1 k0 k1 k2 hbn hon
 replace HV := Lib.hid hy1
 replace C0 := Lib.hid k0
 replace C1 := Lib.hid k1
 replace C2 := Lib.hid k2
 replace HB := Lib.hid hbn
 replace HO := Lib.hid hon
 obtain ⟨p0, p1, p2, p3, p4, p5⟩ := cells6 hy1
 obtain ⟨r0, r1, r2, r3, r4, r5, r6⟩ := cellsV k0
 obtain ⟨s0, s1', s2', s3, s4, s5⟩ := cells6 k1
 obtain ⟨t0, t1, t2, t3, t4, t5⟩ := cells6 k2
 have tf := row_free k2
 have pf := row_free hy1
 clear hy1 k0 k1 k2 hbn hon
 go_wp2_with fail
 clear p0 p1 p2 p3 p4 p5 r0 r1 r2 r3 r4 r5 r6 s0 s1' s2' s3 s4 s5 t0 t1 t2 t3 t4 t5 tf pf hwx
 clear n0 n1 n2 n3 n4 n5 z0 z1 z2 z3 z4 z5 zf nf v0 v1 v2 v3 v4 v5 c0 c1 c2 c3 c4 c5 c6
 obtain ⟨wf, hwf, hrw, hbf, hkf⟩ := finN (w := w) (R := w.heap.size) (.int .i64 n.kind) (.string s2) (.slice h3.A n.ptrs.length h3.a) (.int .i64 n.size) (.int .i64 n.count) (.slice h3.B n.items.length h3.b) C2.out HB.out (by omega)
 rw [hwf]
 obtain ⟨e0, e1, e2, e3, e4, e5⟩ := cells6 hrw
 exact bodyPost_ret (v := .tuple #[.agg #[.int .i64 n.kind, .string s2, .slice h3.A n.ptrs.length h3.a, .int .i64 n.size, .int .i64 n.count, .slice h3.B n.items.length h3.b], .bool true]) (by simp [results, Try.results16, go_sem, e0, e1, e2, e3, e4, e5]) rfl ⟨h3, bs, rfl, OwN.frame (n := withD n s2) HO.out (fun b hb => hkf _ (by have := HG.out.2 b hb; omega)), HG.out.1, fun b hb => by have := HG.out.2 b hb; omega, hbf⟩
end Go.Proofs.Ytfnecflkahmjoaa
