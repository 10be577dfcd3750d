/- Texts of the proof of the law FnExactAccessGet, side by side: part 21. -/
import Derived.Test.YtfnecflkahmjoaaMExactAccessGet20
set_option maxHeartbeats 8000000
set_option maxRecDepth 100000
namespace Go.Proofs.Ytfnecflkahmjoaa
open Go.RowKit Go.Deep
theorem spGet_E3 (nm : ByteArray) (k at_ sz tu tg pl : Int) (m : Nat) (n : Nd) (hh : Hd) (w : World) (S : Nat → Prop) (hs : nm.size ≤ maxLen) (hn : NdAt w S m n hh) (htn : totN m n ≤ 2000000) (M : Nat) (hA : accB nm k at_ sz tu tg pl = true) (hO : nodeOk n = true) (hk : n.kind ≠ 2) (hwd : (byL n).length % 8 = 0 ∧ (byL n).length ≤ 1600) (a0 : 0 ≤ at_) (a1 : at_ ≤ 12799) (hk3 : k = 3) (ht0 : 0 ≤ tg) (ht9 : tg ≤ 1598) (htm : tg % 2 = 0) (hg : getI (byL n) tg 2 = pl) (hl : (n.ptrs.length : Int) ≤ at_)  :
 Calls Try.prog 7 #[accV nm k at_ sz tu tg pl, .agg #[.int .i64 n.kind, .string n.data, .slice hh.A n.ptrs.length hh.a, .int .i64 n.size, .int .i64 n.count, .slice hh.B n.items.length hh.b]] w (NewVal M 0 noneNd true w) := by
 have hk2 : (n.kind == 2) = false := by simp [hk]
 have hdl : n.data.size ≤ maxLen := hn.1
 have HL1 : Hid (∀ W : World, Calls Try.prog 22 #[.string n.data, .int .i64 tg, .int .i64 2] W fun e w' => e = .returned (.int .i64 (getI (byL n) tg 2)) ∧ W = w') := Lib.hid fun W => by
  have := l1Get_any n.data tg 2 W hn.1 ht0 (by omega) (by decide) (by decide)
  rwa [← getI_l1 (l := byL n) (a := tg) (z := 2) hwd (by decide) ht0 htm] at this
 have hge : ¬ tg < 0 := by omega
 obtain ⟨gv, hgv⟩ : ∃ gv, getI (byL n) tg 2 = gv := ⟨_, rfl⟩
 rw [hgv] at hg HL1
 have hne : (gv != pl) = false := by simp [hg]
 clear ht9 htm hg hgv
 have HK3 := Lib.hid hk3
 clear hk hwd hk3
 have HLI := Lib.hid hl
 clear hl
 have HOK := Lib.hid (fun W : World => specAccessOk_any nm k at_ sz tu tg pl W hs)
 have HNO := Lib.hid (fun (W : World) (hW : Below w.heap.size w W) => specNodeOk_a m n hh W S (hn.below hW) htn)
 rw [hA] at HOK
 rw [hO] at HNO
 unfold accV at HOK ⊢
 have q0 := al_first w (.cells #[.string nm, .int .i64 k, .int .i64 at_, .int .i64 sz, .int .i64 tu, .int .i64 tg, .int .i64 pl] accT)
 have q1 := al_next q0 (.cells #[.int .i64 n.kind, .string n.data, .slice hh.A n.ptrs.length hh.a, .int .i64 n.size, .int .i64 n.count, .slice hh.B n.items.length hh.b] nodeT)
 have q2 := al_next q1 (.cells #[.int .i64 0, .int .i64 0, .string { data := #[] }, .slice none 0 0, .int .i64 0, .int .i64 0, .slice none 0 0] valT)
 have r0 := heap_alloc_keep (heap_alloc_keep (heap_alloc_new w (.cells #[.string nm, .int .i64 k, .int .i64 at_, .int .i64 sz, .int .i64 tu, .int .i64 tg, .int .i64 pl] accT)) (.cells #[.int .i64 n.kind, .string n.data, .slice hh.A n.ptrs.length hh.a, .int .i64 n.size, .int .i64 n.count, .slice hh.B n.items.length hh.b] nodeT)) (.cells #[.int .i64 0, .int .i64 0, .string { data := #[] }, .slice none 0 0, .int .i64 0, .int .i64 0, .slice none 0 0] valT)
 have r1 := heap_alloc_keep (al_row q0 #[.int .i64 n.kind, .string n.data, .slice hh.A n.ptrs.length hh.a, .int .i64 n.size, .int .i64 n.count, .slice hh.B n.items.length hh.b] nodeT) (.cells #[.int .i64 0, .int .i64 0, .string { data := #[] }, .slice none 0 0, .int .i64 0, .int .i64 0, .slice none 0 0] valT)
 have r2 := al_row q1 #[.int .i64 0, .int .i64 0, .string { data := #[] }, .slice none 0 0, .int .i64 0, .int .i64 0, .slice none 0 0] valT
 rw [show w.heap.size + (1 + 1) = w.heap.size + 1 + 1 from rfl] at r2
 have HB0 := Lib.hid q2.2
 have R0 := Lib.hid r0
 have R1 := Lib.hid r1
 have R2 := Lib.hid r2
 clear q2 q1 q0 r0 r1 r2 htn hs hA
 go_enter Try.func7, Try.ntmps7
 go_wp2_with fail
 generalize ((w.alloc (.cells #[.string nm, .int .i64 k, .int .i64 at_, .int .i64 sz, .int .i64 tu, .int .i64 tg, .int .i64 pl] accT)).alloc (.cells #[.int .i64 n.kind, .string n.data, .slice hh.A n.ptrs.length hh.a, .int .i64 n.size, .int .i64 n.count, .slice hh.B n.items.length hh.b] nodeT)).alloc (.cells #[.int .i64 0, .int .i64 0, .string { data := #[] }, .slice none 0 0, .int .i64 0, .int .i64 0, .slice none 0 0] valT) = W at *
 have HDR : Hid (Below W.heap.size W W.drew) := Lib.hid ⟨rfl, rfl, rfl, Nat.le_refl _, fun _ _ => rfl⟩
 refine wp_region_held_drew (S := (fun V => V.heap[w.heap.size]? = some (.cells #[.string nm, .int .i64 k, .int .i64 at_, .int .i64 sz, .int .i64 tu, .int .i64 tg, .int .i64 pl] accT (0, 0)) ∧ V.heap[w.heap.size + 1]? = some (.cells #[.int .i64 n.kind, .string n.data, .slice hh.A n.ptrs.length hh.a, .int .i64 n.size, .int .i64 n.count, .slice hh.B n.items.length hh.b] nodeT (0, 0)))) (by kernel_rfl) ?_ (fun hH0 => ?_)
 · exact ⟨R0.out, R1.out⟩
 have hC := HDR.out
 have hHo := hH0
 clear hH0
 have u0 := R0.out
 have u1 := R1.out
 refine wpAnyH_take (i := 0) (v := .agg #[.string nm, .int .i64 k, .int .i64 at_, .int .i64 sz, .int .i64 tu, .int .i64 tg, .int .i64 pl]) rfl (by kernel_rfl) (by kernel_rfl) (by kernel_rfl) (fun _ _ _ h => h) (Or.inl ⟨by rfl, ?_⟩) (by assumption) ?_
 · intro w hSw
   obtain ⟨s0, s1, s2, s3, s4, s5, s6⟩ := cellsV hSw.1
   obtain ⟨t0, t1, t2, t3, t4, t5⟩ := cells6 hSw.2
   go_simp
 try simp only [List.getElem_toArray, List.getElem_cons_succ, List.getElem_cons_zero, Act.put, List.setIfInBounds_toArray, List.set_cons_zero, List.set_cons_succ]
 refine wpAnyH_ready (rs := [1]) (by kernel_rfl) (by simp) ?_
 refine AllReadyH.cons rfl (fun K hK => ?_) AllReadyH.nil
 go_simp
 go_at_call 20
 refine (HOK.out _).mono ?_
 rintro e w1 ⟨rfl, hb3⟩
 have hC' := hC.trans (hb3.mono hC.size)
 have v0 := (hb3.block _ (row_lt u0)).trans u0
 have v1 := (hb3.block _ (row_lt u1)).trans u1
 clear hb3 hC u0 u1
 go_wp2_with fail
 refine hK.out _ _ ⟨v0, v1⟩ (fun hHn => ?_)
 clear hK K hHo
 have hHo := hHn
 clear hHn
 have u0 := v0
 have u1 := v1
 have hC := hC'
 clear v0 v1 hC'
 try simp only [List.getElem_toArray, List.getElem_cons_succ, List.getElem_cons_zero, Act.put, List.setIfInBounds_toArray, List.set_cons_zero, List.set_cons_succ]
 refine wpAnyH_take (i := 2) (v := ?_) rfl (by kernel_rfl) (by kernel_rfl) (by kernel_rfl) (fun _ _ _ h => h) (Or.inl ⟨by rfl, ?_⟩) (by assumption) ?_
 rotate_left
 · intro w hSw
   (try dsimp only at hSw)
   go_simp
   try with_reducible rfl
 try simp only [List.getElem_toArray, List.getElem_cons_succ, List.getElem_cons_zero, Act.put, List.setIfInBounds_toArray, List.set_cons_zero, List.set_cons_succ]
 refine wpAnyH_take (i := 3) (v := ?_) rfl (by kernel_rfl) (by kernel_rfl) (by kernel_rfl) (fun _ _ _ h => h) (Or.inl ⟨by rfl, ?_⟩) (by assumption) ?_
 rotate_left
 · intro w hSw
   (try dsimp only at hSw)
   go_simp
   try with_reducible rfl
 try simp only [List.getElem_toArray, List.getElem_cons_succ, List.getElem_cons_zero, Act.put, List.setIfInBounds_toArray, List.set_cons_zero, List.set_cons_succ]
 refine wpAnyH_take (i := 4) (v := .agg #[.int .i64 n.kind, .string n.data, .slice hh.A n.ptrs.length hh.a, .int .i64 n.size, .int .i64 n.count, .slice hh.B n.items.length hh.b]) rfl (by kernel_rfl) (by kernel_rfl) (by kernel_rfl) (fun _ _ _ h => h) (Or.inl ⟨by rfl, ?_⟩) (by assumption) ?_
 · intro w hSw
   obtain ⟨s0, s1, s2, s3, s4, s5, s6⟩ := cellsV hSw.1
   obtain ⟨t0, t1, t2, t3, t4, t5⟩ := cells6 hSw.2
   go_simp
 try simp only [List.getElem_toArray, List.getElem_cons_succ, List.getElem_cons_zero, Act.put, List.setIfInBounds_toArray, List.set_cons_zero, List.set_cons_succ]
 refine wpAnyH_ready (rs := [5]) (by kernel_rfl) (by simp) ?_
 refine AllReadyH.cons rfl (fun K hK => ?_) AllReadyH.nil
 go_simp
 go_at_call 21
 refine (HNO.out _ (HB0.out.trans (hC.mono HB0.out.size))).mono ?_
 rintro e w2 ⟨rfl, hb3⟩
 have hC' := hC.trans (hb3.mono hC.size)
 have v0 := (hb3.block _ (row_lt u0)).trans u0
 have v1 := (hb3.block _ (row_lt u1)).trans u1
 clear hb3 hC u0 u1
 go_wp2_with fail
 refine hK.out _ _ ⟨v0, v1⟩ (fun hHn => ?_)
 clear hK K hHo
 have hHo := hHn
 clear hHn
 have u0 := v0
 have u1 := v1
 have hC := hC'
 clear v0 v1 hC'
 try simp only [List.getElem_toArray, List.getElem_cons_succ, List.getElem_cons_zero, Act.put, List.setIfInBounds_toArray, List.set_cons_zero, List.set_cons_succ]
 refine wpAnyH_take (i := 6) (v := ?_) rfl (by kernel_rfl) (by kernel_rfl) (by kernel_rfl) (fun _ _ _ h => h) (Or.inl ⟨by rfl, ?_⟩) (by assumption) ?_
 rotate_left
 · intro w hSw
   (try dsimp only at hSw)
   go_simp
   try with_reducible rfl
 try simp only [List.getElem_toArray, List.getElem_cons_succ, List.getElem_cons_zero, Act.put, List.setIfInBounds_toArray, List.set_cons_zero, List.set_cons_succ]
 refine wpAnyH_take (i := 7) (v := ?_) rfl (by kernel_rfl) (by kernel_rfl) (by kernel_rfl) (fun _ _ _ h => h) (Or.inl ⟨by rfl, ?_⟩) (by assumption) ?_
 rotate_left
 · intro w hSw
   (try dsimp only at hSw)
   go_simp
   try with_reducible rfl
 try simp only [List.getElem_toArray, List.getElem_cons_succ, List.getElem_cons_zero, Act.put, List.setIfInBounds_toArray, List.set_cons_zero, List.set_cons_succ]
 refine wpAnyH_take (i := 8) (v := ?_) rfl (by kernel_rfl) (by kernel_rfl) (by kernel_rfl) (fun _ _ _ h => h) (Or.inl ⟨by rfl, ?_⟩) (by assumption) ?_
 rotate_left
 · intro w hSw
   (try dsimp only at hSw)
   go_simp
   try with_reducible rfl
 try simp only [List.getElem_toArray, List.getElem_cons_succ, List.getElem_cons_zero, Act.put, List.setIfInBounds_toArray, List.set_cons_zero, List.set_cons_succ]
 refine wpAnyH_take (i := 9) (v := ?_) rfl (by kernel_rfl) (by kernel_rfl) (by kernel_rfl) (fun _ _ _ h => h) (Or.inl ⟨by rfl, ?_⟩) (by assumption) ?_
 rotate_left
 · intro w hSw
   obtain ⟨s0, s1, s2, s3, s4, s5, s6⟩ := cellsV hSw.1
   obtain ⟨t0, t1, t2, t3, t4, t5⟩ := cells6 hSw.2
   go_simp
   try with_reducible rfl
 try simp only [List.getElem_toArray, List.getElem_cons_succ, List.getElem_cons_zero, Act.put, List.setIfInBounds_toArray, List.set_cons_zero, List.set_cons_succ]
 refine wpAnyH_take (i := 10) (v := ?_) rfl (by kernel_rfl) (by kernel_rfl) (by kernel_rfl) (fun _ _ _ h => h) (Or.inl ⟨by rfl, ?_⟩) (by assumption) ?_
 rotate_left
 · intro w hSw
   obtain ⟨s0, s1, s2, s3, s4, s5, s6⟩ := cellsV hSw.1
   obtain ⟨t0, t1, t2, t3, t4, t5⟩ := cells6 hSw.2
   go_simp
   try with_reducible rfl
 try simp only [List.getElem_toArray, List.getElem_cons_succ, List.getElem_cons_zero, Act.put, List.setIfInBounds_toArray, List.set_cons_zero, List.set_cons_succ]
 refine wpAnyH_take (i := 11) (v := ?_) rfl (by kernel_rfl) (by kernel_rfl) (by kernel_rfl) (fun _ _ _ h => h) (Or.inl ⟨by rfl, ?_⟩) (by assumption) ?_
 rotate_left
 · intro w hSw
   (try dsimp only at hSw)
   go_simp
   try with_reducible rfl
 try simp only [List.getElem_toArray, List.getElem_cons_succ, List.getElem_cons_zero, Act.put, List.setIfInBounds_toArray, List.set_cons_zero, List.set_cons_succ]
 refine wpAnyH_take (i := 12) (v := ?_) rfl (by kernel_rfl) (by kernel_rfl) (by kernel_rfl) (fun _ _ _ h => h) (Or.inl ⟨by rfl, ?_⟩) (by assumption) ?_
 rotate_left
 · intro w hSw
   (try dsimp only at hSw)
   go_simp
   try with_reducible rfl
 try simp only [List.getElem_toArray, List.getElem_cons_succ, List.getElem_cons_zero, Act.put, List.setIfInBounds_toArray, List.set_cons_zero, List.set_cons_succ]
 refine wpAnyH_take (i := 13) (v := ?_) rfl (by kernel_rfl) (by kernel_rfl) (by kernel_rfl) (fun _ _ _ h => h) (Or.inl ⟨by rfl, ?_⟩) (by assumption) ?_
 rotate_left
 · intro w hSw
   (try dsimp only at hSw)
   go_simp
   try with_reducible rfl
 try simp only [List.getElem_toArray, List.getElem_cons_succ, List.getElem_cons_zero, Act.put, List.setIfInBounds_toArray, List.set_cons_zero, List.set_cons_succ]
 refine wpAnyH_take (i := 14) (v := ?_) rfl (by kernel_rfl) (by kernel_rfl) (by kernel_rfl) (fun _ _ _ h => h) (Or.inl ⟨by rfl, ?_⟩) (by assumption) ?_
 rotate_left
 · intro w hSw
   obtain ⟨s0, s1, s2, s3, s4, s5, s6⟩ := cellsV hSw.1
   obtain ⟨t0, t1, t2, t3, t4, t5⟩ := cells6 hSw.2
   go_simp
   try with_reducible rfl
 try simp only [List.getElem_toArray, List.getElem_cons_succ, List.getElem_cons_zero, Act.put, List.setIfInBounds_toArray, List.set_cons_zero, List.set_cons_succ]
 refine wpAnyH_take (i := 15) (v := ?_) rfl (by kernel_rfl) (by kernel_rfl) (by kernel_rfl) (fun _ _ _ h => h) (Or.inl ⟨by rfl, ?_⟩) (by assumption) ?_
 rotate_left
 · intro w hSw
   obtain ⟨s0, s1, s2, s3, s4, s5, s6⟩ := cellsV hSw.1
   obtain ⟨t0, t1, t2, t3, t4, t5⟩ := cells6 hSw.2
   go_simp
   try with_reducible rfl
 try simp only [List.getElem_toArray, List.getElem_cons_succ, List.getElem_cons_zero, Act.put, List.setIfInBounds_toArray, List.set_cons_zero, List.set_cons_succ]
 refine wpAnyH_take (i := 16) (v := ?_) rfl (by kernel_rfl) (by kernel_rfl) (by kernel_rfl) (fun _ _ _ h => h) (Or.inl ⟨by rfl, ?_⟩) (by assumption) ?_
 rotate_left
 · intro w hSw
   (try dsimp only at hSw)
   go_simp
   try with_reducible rfl
 try simp only [List.getElem_toArray, List.getElem_cons_succ, List.getElem_cons_zero, Act.put, List.setIfInBounds_toArray, List.set_cons_zero, List.set_cons_succ]
 refine wpAnyH_take (i := 17) (v := ?_) rfl (by kernel_rfl) (by kernel_rfl) (by kernel_rfl) (fun _ _ _ h => h) (Or.inl ⟨by rfl, ?_⟩) (by assumption) ?_
 rotate_left
 · intro w hSw
   (try dsimp only at hSw)
   go_simp
   try with_reducible rfl
 try simp only [List.getElem_toArray, List.getElem_cons_succ, List.getElem_cons_zero, Act.put, List.setIfInBounds_toArray, List.set_cons_zero, List.set_cons_succ]
 refine wpAnyH_take (i := 18) (v := ?_) rfl (by kernel_rfl) (by kernel_rfl) (by kernel_rfl) (fun _ _ _ h => h) (Or.inl ⟨by rfl, ?_⟩) (by assumption) ?_
 rotate_left
 · intro w hSw
   obtain ⟨s0, s1, s2, s3, s4, s5, s6⟩ := cellsV hSw.1
   obtain ⟨t0, t1, t2, t3, t4, t5⟩ := cells6 hSw.2
   go_simp
   try with_reducible rfl
 try simp only [List.getElem_toArray, List.getElem_cons_succ, List.getElem_cons_zero, Act.put, List.setIfInBounds_toArray, List.set_cons_zero, List.set_cons_succ]
 refine wpAnyH_take (i := 19) (v := ?_) rfl (by kernel_rfl) (by kernel_rfl) (by kernel_rfl) (fun _ _ _ h => h) (Or.inl ⟨by rfl, ?_⟩) (by assumption) ?_
 rotate_left
 · intro w hSw
   obtain ⟨s0, s1, s2, s3, s4, s5, s6⟩ := cellsV hSw.1
   obtain ⟨t0, t1, t2, t3, t4, t5⟩ := cells6 hSw.2
   go_simp
   try with_reducible rfl
 try simp only [List.getElem_toArray, List.getElem_cons_succ, List.getElem_cons_zero, Act.put, List.setIfInBounds_toArray, List.set_cons_zero, List.set_cons_succ]
 refine wpAnyH_take (i := 20) (v := ?_) rfl (by kernel_rfl) (by kernel_rfl) (by kernel_rfl) (fun _ _ _ h => h) (Or.inl ⟨by rfl, ?_⟩) (by assumption) ?_
 rotate_left
 · intro w hSw
   obtain ⟨s0, s1, s2, s3, s4, s5, s6⟩ := cellsV hSw.1
   obtain ⟨t0, t1, t2, t3, t4, t5⟩ := cells6 hSw.2
   go_simp
   try with_reducible rfl
 try simp only [List.getElem_toArray, List.getElem_cons_succ, List.getElem_cons_zero, Act.put, List.setIfInBounds_toArray, List.set_cons_zero, List.set_cons_succ]
 refine wpAnyH_take (i := 21) (v := ?_) rfl (by kernel_rfl) (by kernel_rfl) (by kernel_rfl) (fun _ _ _ h => h) (Or.inl ⟨by rfl, ?_⟩) (by assumption) ?_
 rotate_left
 · intro w hSw
   obtain ⟨s0, s1, s2, s3, s4, s5, s6⟩ := cellsV hSw.1
   obtain ⟨t0, t1, t2, t3, t4, t5⟩ := cells6 hSw.2
   go_simp
   try with_reducible rfl
 try simp only [List.getElem_toArray, List.getElem_cons_succ, List.getElem_cons_zero, Act.put, List.setIfInBounds_toArray, List.set_cons_zero, List.set_cons_succ]
 refine wpAnyH_take (i := 23) (v := ?_) rfl (by kernel_rfl) (by kernel_rfl) (by kernel_rfl) (fun _ _ _ h => h) (Or.inl ⟨by rfl, ?_⟩) (by assumption) ?_
 rotate_left
 · intro w hSw
   obtain ⟨s0, s1, s2, s3, s4, s5, s6⟩ := cellsV hSw.1
   obtain ⟨t0, t1, t2, t3, t4, t5⟩ := cells6 hSw.2
   go_simp
   try with_reducible rfl
 try simp only [List.getElem_toArray, List.getElem_cons_succ, List.getElem_cons_zero, Act.put, List.setIfInBounds_toArray, List.set_cons_zero, List.set_cons_succ]
 refine wpAnyH_take (i := 24) (v := ?_) rfl (by kernel_rfl) (by kernel_rfl) (by kernel_rfl) (fun _ _ _ h => h) (Or.inl ⟨by rfl, ?_⟩) (by assumption) ?_
 rotate_left
 · intro w hSw
   obtain ⟨s0, s1, s2, s3, s4, s5, s6⟩ := cellsV hSw.1
   obtain ⟨t0, t1, t2, t3, t4, t5⟩ := cells6 hSw.2
   go_simp
   try with_reducible rfl
 try simp only [List.getElem_toArray, List.getElem_cons_succ, List.getElem_cons_zero, Act.put, List.setIfInBounds_toArray, List.set_cons_zero, List.set_cons_succ]
 refine wpAnyH_ready (rs := [22]) (by kernel_rfl) (by simp) ?_
 refine AllReadyH.cons rfl (fun K hK => ?_) AllReadyH.nil
 go_simp
 go_at_call 22
 refine (HL1.out _).mono ?_
 rintro e w3 ⟨rfl, hb3⟩
 obtain rfl := hb3
 have hb3 := Below.refl w2.heap.size w2
 have hC' := hC.trans (hb3.mono hC.size)
 have v0 := (hb3.block _ (row_lt u0)).trans u0
 have v1 := (hb3.block _ (row_lt u1)).trans u1
 clear hb3 hC u0 u1
 go_wp2_with fail
 refine hK.out _ _ ⟨v0, v1⟩ (fun hHn => ?_)
 clear hK K hHo
 have hHo := hHn
 clear hHn
 have u0 := v0
 have u1 := v1
 have hC := hC'
 clear v0 v1 hC'
 try simp only [List.getElem_toArray, List.getElem_cons_succ, List.getElem_cons_zero, Act.put, List.setIfInBounds_toArray, List.set_cons_zero, List.set_cons_succ]
 refine wpAnyH_take (i := 25) (v := ?_) rfl (by kernel_rfl) (by kernel_rfl) (by kernel_rfl) (fun _ _ _ h => h) (Or.inl ⟨by rfl, ?_⟩) (by assumption) ?_
 rotate_left
 · intro w hSw
   (try dsimp only at hSw)
   go_simp
   try with_reducible rfl
 try simp only [List.getElem_toArray, List.getElem_cons_succ, List.getElem_cons_zero, Act.put, List.setIfInBounds_toArray, List.set_cons_zero, List.set_cons_succ]
 refine wpAnyH_take (i := 26) (v := ?_) rfl (by kernel_rfl) (by kernel_rfl) (by kernel_rfl) (fun _ _ _ h => h) (Or.inl ⟨by rfl, ?_⟩) (by assumption) ?_
 rotate_left
 · intro w hSw
   (try dsimp only at hSw)
   go_simp
   try with_reducible rfl
 try simp only [List.getElem_toArray, List.getElem_cons_succ, List.getElem_cons_zero, Act.put, List.setIfInBounds_toArray, List.set_cons_zero, List.set_cons_succ]
 refine wpAnyH_take (i := 27) (v := ?_) rfl (by kernel_rfl) (by kernel_rfl) (by kernel_rfl) (fun _ _ _ h => h) (Or.inl ⟨by rfl, ?_⟩) (by assumption) ?_
 rotate_left
 · intro w hSw
   (try dsimp only at hSw)
   go_simp
   try with_reducible rfl
 try simp only [List.getElem_toArray, List.getElem_cons_succ, List.getElem_cons_zero, Act.put, List.setIfInBounds_toArray, List.set_cons_zero, List.set_cons_succ]
 refine wpAnyH_done (by kernel_rfl) ?_ _
 clear hHo
 have HB2 := Lib.hid (HB0.out.trans (hC.mono HB0.out.size))
 have Y0 := Lib.hid u0
 have Y1 := Lib.hid u1
 have Y2 := Lib.hid ((hC.block _ (row_lt R2.out)).trans R2.out)
 clear hC u0 u1 hn a0 a1 hk2 hge hne ht0
 have hk3 := HK3.out
 subst hk3
 obtain ⟨a0, a1, a2, a3, a4, a5, a6⟩ := cellsV Y0.out
 obtain ⟨n0, n1, n2, n3, n4, n5⟩ := cells6 Y1.out
 obtain ⟨z0, z1, z2, z3, z4, z5, z6⟩ := cellsV Y2.out
 have zf := row_free Y2.out
 have hl := HLI.out
 have hli : ¬ at_ < (n.ptrs.length : Int) := by omega
 go_wp2_with fail
 obtain ⟨wf, hwf, hrw, hbf, hkf⟩ := finV (w := w) (R := w.heap.size) (.int .i64 0) (.int .i64 0) (.string ⟨#[]⟩) (.slice none 0 0) (.int .i64 0) (.int .i64 0) (.slice none 0 0) Y2.out HB2.out (by omega)
 rw [hwf]
 obtain ⟨e0, e1, e2, e3, e4, e5, e6⟩ := cellsV hrw
 exact bodyPost_ret (v := .tuple #[numA 0, .bool true]) (by simp [results, Try.results7, go_sem, e0, e1, e2, e3, e4, e5, e6]) rfl (NewVal.none rfl hbf)
theorem spGet_E3i (nm : ByteArray) (k at_ sz tu tg pl : Int) (m : Nat) (n : Nd) (hh : Hd) (w : World) (S : Nat → Prop) (hs : nm.size ≤ maxLen) (hn : NdAt w S m n hh) (htn : totN m n ≤ 2000000) (M : Nat) (hA : accB nm k at_ sz tu tg pl = true) (hO : nodeOk n = true) (hk : n.kind ≠ 2) (hwd : (byL n).length % 8 = 0 ∧ (byL n).length ≤ 1600) (a0 : 0 ≤ at_) (a1 : at_ ≤ 12799) (hk3 : k = 3) (ht0 : 0 ≤ tg) (ht9 : tg ≤ 1598) (htm : tg % 2 = 0) (hg : getI (byL n) tg 2 = pl) (j i : Nat) (y : Nd) (hy : Hd) (x : Addr) (hi : at_ = (i : Int)) (hl : i < n.ptrs.length) (hx : hh.A = some x) (hc : NdCell w (x.add (i * 6)) y hy) (hny : NdAt w S j y hy) (hty : totN j y ≤ 2000000)  :
 Calls Try.prog 7 #[accV nm k at_ sz tu tg pl, .agg #[.int .i64 n.kind, .string n.data, .slice hh.A n.ptrs.length hh.a, .int .i64 n.size, .int .i64 n.count, .slice hh.B n.items.length hh.b]] w (NewVal (j + 1) 0 y true w) := by
 have hk2 : (n.kind == 2) = false := by simp [hk]
 have hdl : n.data.size ≤ maxLen := hn.1
 have HL1 : Hid (∀ W : World, Calls Try.prog 22 #[.string n.data, .int .i64 tg, .int .i64 2] W fun e w' => e = .returned (.int .i64 (getI (byL n) tg 2)) ∧ W = w') := Lib.hid fun W => by
  have := l1Get_any n.data tg 2 W hn.1 ht0 (by omega) (by decide) (by decide)
  rwa [← getI_l1 (l := byL n) (a := tg) (z := 2) hwd (by decide) ht0 htm] at this
 have hge : ¬ tg < 0 := by omega
 obtain ⟨gv, hgv⟩ : ∃ gv, getI (byL n) tg 2 = gv := ⟨_, rfl⟩
 rw [hgv] at hg HL1
 have hne : (gv != pl) = false := by simp [hg]
 clear ht9 htm hg hgv
 have HCP := Lib.hid (fun (W : World) (hW : Below w.heap.size w W) => cpN_any j y hy W S (hny.below hW) hty)
 unfold NewO at HCP
 have HCC := Lib.hid hc
 clear hc hny hty
 have HK3 := Lib.hid hk3
 clear hk hwd hk3
 have HLM : Hid (n.ptrs.length ≤ 4000000) := Lib.hid (by have := ptrs_len hn; have := tot_ptrs hn; unfold ptrsL at *; simp at *; omega)
 have HI := Lib.hid hi
 have HXX := Lib.hid hx
 have HLI := Lib.hid hl
 clear hi hx hl
 have HOK := Lib.hid (fun W : World => specAccessOk_any nm k at_ sz tu tg pl W hs)
 have HNO := Lib.hid (fun (W : World) (hW : Below w.heap.size w W) => specNodeOk_a m n hh W S (hn.below hW) htn)
 rw [hA] at HOK
 rw [hO] at HNO
 unfold accV at HOK ⊢
 have q0 := al_first w (.cells #[.string nm, .int .i64 k, .int .i64 at_, .int .i64 sz, .int .i64 tu, .int .i64 tg, .int .i64 pl] accT)
 have q1 := al_next q0 (.cells #[.int .i64 n.kind, .string n.data, .slice hh.A n.ptrs.length hh.a, .int .i64 n.size, .int .i64 n.count, .slice hh.B n.items.length hh.b] nodeT)
 have q2 := al_next q1 (.cells #[.int .i64 0, .int .i64 0, .string { data := #[] }, .slice none 0 0, .int .i64 0, .int .i64 0, .slice none 0 0] valT)
 have r0 := heap_alloc_keep (heap_alloc_keep (heap_alloc_new w (.cells #[.string nm, .int .i64 k, .int .i64 at_, .int .i64 sz, .int .i64 tu, .int .i64 tg, .int .i64 pl] accT)) (.cells #[.int .i64 n.kind, .string n.data, .slice hh.A n.ptrs.length hh.a, .int .i64 n.size, .int .i64 n.count, .slice hh.B n.items.length hh.b] nodeT)) (.cells #[.int .i64 0, .int .i64 0, .string { data := #[] }, .slice none 0 0, .int .i64 0, .int .i64 0, .slice none 0 0] valT)
 have r1 := heap_alloc_keep (al_row q0 #[.int .i64 n.kind, .string n.data, .slice hh.A n.ptrs.length hh.a, .int .i64 n.size, .int .i64 n.count, .slice hh.B n.items.length hh.b] nodeT) (.cells #[.int .i64 0, .int .i64 0, .string { data := #[] }, .slice none 0 0, .int .i64 0, .int .i64 0, .slice none 0 0] valT)
 have r2 := al_row q1 #[.int .i64 0, .int .i64 0, .string { data := #[] }, .slice none 0 0, .int .i64 0, .int .i64 0, .slice none 0 0] valT
 rw [show w.heap.size + (1 + 1) = w.heap.size + 1 + 1 from rfl] at r2
 have HB0 := Lib.hid q2.2
 have R0 := Lib.hid r0
 have R1 := Lib.hid r1
 have R2 := Lib.hid r2
 clear q2 q1 q0 r0 r1 r2 htn hs hA
 go_enter Try.func7, Try.ntmps7
 go_wp2_with fail
 generalize ((w.alloc (.cells #[.string nm, .int .i64 k, .int .i64 at_, .int .i64 sz, .int .i64 tu, .int .i64 tg, .int .i64 pl] accT)).alloc (.cells #[.int .i64 n.kind, .string n.data, .slice hh.A n.ptrs.length hh.a, .int .i64 n.size, .int .i64 n.count, .slice hh.B n.items.length hh.b] nodeT)).alloc (.cells #[.int .i64 0, .int .i64 0, .string { data := #[] }, .slice none 0 0, .int .i64 0, .int .i64 0, .slice none 0 0] valT) = W at *
 have HDR : Hid (Below W.heap.size W W.drew) := Lib.hid ⟨rfl, rfl, rfl, Nat.le_refl _, fun _ _ => rfl⟩
 refine wp_region_held_drew (S := (fun V => V.heap[w.heap.size]? = some (.cells #[.string nm, .int .i64 k, .int .i64 at_, .int .i64 sz, .int .i64 tu, .int .i64 tg, .int .i64 pl] accT (0, 0)) ∧ V.heap[w.heap.size + 1]? = some (.cells #[.int .i64 n.kind, .string n.data, .slice hh.A n.ptrs.length hh.a, .int .i64 n.size, .int .i64 n.count, .slice hh.B n.items.length hh.b] nodeT (0, 0)))) (by kernel_rfl) ?_ (fun hH0 => ?_)
 · exact ⟨R0.out, R1.out⟩
 have hC := HDR.out
 have hHo := hH0
 clear hH0
 have u0 := R0.out
 have u1 := R1.out
 refine wpAnyH_take (i := 0) (v := .agg #[.string nm, .int .i64 k, .int .i64 at_, .int .i64 sz, .int .i64 tu, .int .i64 tg, .int .i64 pl]) rfl (by kernel_rfl) (by kernel_rfl) (by kernel_rfl) (fun _ _ _ h => h) (Or.inl ⟨by rfl, ?_⟩) (by assumption) ?_
 · intro w hSw
   obtain ⟨s0, s1, s2, s3, s4, s5, s6⟩ := cellsV hSw.1
   obtain ⟨t0, t1, t2, t3, t4, t5⟩ := cells6 hSw.2
   go_simp
 try simp only [List.getElem_toArray, List.getElem_cons_succ, List.getElem_cons_zero, Act.put, List.setIfInBounds_toArray, List.set_cons_zero, List.set_cons_succ]
 refine wpAnyH_ready (rs := [1]) (by kernel_rfl) (by simp) ?_
 refine AllReadyH.cons rfl (fun K hK => ?_) AllReadyH.nil
 go_simp
 go_at_call 20
 refine (HOK.out _).mono ?_
 rintro e w1 ⟨rfl, hb3⟩
 have hC' := hC.trans (hb3.mono hC.size)
 have v0 := (hb3.block _ (row_lt u0)).trans u0
 have v1 := (hb3.block _ (row_lt u1)).trans u1
 clear hb3 hC u0 u1
 go_wp2_with fail
 refine hK.out _ _ ⟨v0, v1⟩ (fun hHn => ?_)
 clear hK K hHo
 have hHo := hHn
 clear hHn
 have u0 := v0
 have u1 := v1
 have hC := hC'
 clear v0 v1 hC'
 try simp only [List.getElem_toArray, List.getElem_cons_succ, List.getElem_cons_zero, Act.put, List.setIfInBounds_toArray, List.set_cons_zero, List.set_cons_succ]
 refine wpAnyH_take (i := 2) (v := ?_) rfl (by kernel_rfl) (by kernel_rfl) (by kernel_rfl) (fun _ _ _ h => h) (Or.inl ⟨by rfl, ?_⟩) (by assumption) ?_
 rotate_left
 · intro w hSw
   (try dsimp only at hSw)
   go_simp
   try with_reducible rfl
 try simp only [List.getElem_toArray, List.getElem_cons_succ, List.getElem_cons_zero, Act.put, List.setIfInBounds_toArray, List.set_cons_zero, List.set_cons_succ]
 refine wpAnyH_take (i := 3) (v := ?_) rfl (by kernel_rfl) (by kernel_rfl) (by kernel_rfl) (fun _ _ _ h => h) (Or.inl ⟨by rfl, ?_⟩) (by assumption) ?_
 rotate_left
 · intro w hSw
   (try dsimp only at hSw)
   go_simp
   try with_reducible rfl
 try simp only [List.getElem_toArray, List.getElem_cons_succ, List.getElem_cons_zero, Act.put, List.setIfInBounds_toArray, List.set_cons_zero, List.set_cons_succ]
 refine wpAnyH_take (i := 4) (v := .agg #[.int .i64 n.kind, .string n.data, .slice hh.A n.ptrs.length hh.a, .int .i64 n.size, .int .i64 n.count, .slice hh.B n.items.length hh.b]) rfl (by kernel_rfl) (by kernel_rfl) (by kernel_rfl) (fun _ _ _ h => h) (Or.inl ⟨by rfl, ?_⟩) (by assumption) ?_
 · intro w hSw
   obtain ⟨s0, s1, s2, s3, s4, s5, s6⟩ := cellsV hSw.1
   obtain ⟨t0, t1, t2, t3, t4, t5⟩ := cells6 hSw.2
   go_simp
 try simp only [List.getElem_toArray, List.getElem_cons_succ, List.getElem_cons_zero, Act.put, List.setIfInBounds_toArray, List.set_cons_zero, List.set_cons_succ]
 refine wpAnyH_ready (rs := [5]) (by kernel_rfl) (by simp) ?_
 refine AllReadyH.cons rfl (fun K hK => ?_) AllReadyH.nil
 go_simp
 go_at_call 21
 refine (HNO.out _ (HB0.out.trans (hC.mono HB0.out.size))).mono ?_
 rintro e w2 ⟨rfl, hb3⟩
 have hC' := hC.trans (hb3.mono hC.size)
 have v0 := (hb3.block _ (row_lt u0)).trans u0
 have v1 := (hb3.block _ (row_lt u1)).trans u1
 clear hb3 hC u0 u1
 go_wp2_with fail
 refine hK.out _ _ ⟨v0, v1⟩ (fun hHn => ?_)
 clear hK K hHo
 have hHo := hHn
 clear hHn
 have u0 := v0
 have u1 := v1
 have hC := hC'
 clear v0 v1 hC'
 try simp only [List.getElem_toArray, List.getElem_cons_succ, List.getElem_cons_zero, Act.put, List.setIfInBounds_toArray, List.set_cons_zero, List.set_cons_succ]
 refine wpAnyH_take (i := 6) (v := ?_) rfl (by kernel_rfl) (by kernel_rfl) (by kernel_rfl) (fun _ _ _ h => h) (Or.inl ⟨by rfl, ?_⟩) (by assumption) ?_
 rotate_left
 · intro w hSw
   (try dsimp only at hSw)
   go_simp
   try with_reducible rfl
 try simp only [List.getElem_toArray, List.getElem_cons_succ, List.getElem_cons_zero, Act.put, List.setIfInBounds_toArray, List.set_cons_zero, List.set_cons_succ]
 refine wpAnyH_take (i := 7) (v := ?_) rfl (by kernel_rfl) (by kernel_rfl) (by kernel_rfl) (fun _ _ _ h => h) (Or.inl ⟨by rfl, ?_⟩) (by assumption) ?_
 rotate_left
 · intro w hSw
   (try dsimp only at hSw)
   go_simp
   try with_reducible rfl
 try simp only [List.getElem_toArray, List.getElem_cons_succ, List.getElem_cons_zero, Act.put, List.setIfInBounds_toArray, List.set_cons_zero, List.set_cons_succ]
 refine wpAnyH_take (i := 8) (v := ?_) rfl (by kernel_rfl) (by kernel_rfl) (by kernel_rfl) (fun _ _ _ h => h) (Or.inl ⟨by rfl, ?_⟩) (by assumption) ?_
 rotate_left
 · intro w hSw
   (try dsimp only at hSw)
   go_simp
   try with_reducible rfl
 try simp only [List.getElem_toArray, List.getElem_cons_succ, List.getElem_cons_zero, Act.put, List.setIfInBounds_toArray, List.set_cons_zero, List.set_cons_succ]
 refine wpAnyH_take (i := 9) (v := ?_) rfl (by kernel_rfl) (by kernel_rfl) (by kernel_rfl) (fun _ _ _ h => h) (Or.inl ⟨by rfl, ?_⟩) (by assumption) ?_
 rotate_left
 · intro w hSw
   obtain ⟨s0, s1, s2, s3, s4, s5, s6⟩ := cellsV hSw.1
   obtain ⟨t0, t1, t2, t3, t4, t5⟩ := cells6 hSw.2
   go_simp
   try with_reducible rfl
 try simp only [List.getElem_toArray, List.getElem_cons_succ, List.getElem_cons_zero, Act.put, List.setIfInBounds_toArray, List.set_cons_zero, List.set_cons_succ]
 refine wpAnyH_take (i := 10) (v := ?_) rfl (by kernel_rfl) (by kernel_rfl) (by kernel_rfl) (fun _ _ _ h => h) (Or.inl ⟨by rfl, ?_⟩) (by assumption) ?_
 rotate_left
 · intro w hSw
   obtain ⟨s0, s1, s2, s3, s4, s5, s6⟩ := cellsV hSw.1
   obtain ⟨t0, t1, t2, t3, t4, t5⟩ := cells6 hSw.2
   go_simp
   try with_reducible rfl
 try simp only [List.getElem_toArray, List.getElem_cons_succ, List.getElem_cons_zero, Act.put, List.setIfInBounds_toArray, List.set_cons_zero, List.set_cons_succ]
 refine wpAnyH_take (i := 11) (v := ?_) rfl (by kernel_rfl) (by kernel_rfl) (by kernel_rfl) (fun _ _ _ h => h) (Or.inl ⟨by rfl, ?_⟩) (by assumption) ?_
 rotate_left
 · intro w hSw
   (try dsimp only at hSw)
   go_simp
   try with_reducible rfl
 try simp only [List.getElem_toArray, List.getElem_cons_succ, List.getElem_cons_zero, Act.put, List.setIfInBounds_toArray, List.set_cons_zero, List.set_cons_succ]
 refine wpAnyH_take (i := 12) (v := ?_) rfl (by kernel_rfl) (by kernel_rfl) (by kernel_rfl) (fun _ _ _ h => h) (Or.inl ⟨by rfl, ?_⟩) (by assumption) ?_
 rotate_left
 · intro w hSw
   (try dsimp only at hSw)
   go_simp
   try with_reducible rfl
 try simp only [List.getElem_toArray, List.getElem_cons_succ, List.getElem_cons_zero, Act.put, List.setIfInBounds_toArray, List.set_cons_zero, List.set_cons_succ]
 refine wpAnyH_take (i := 13) (v := ?_) rfl (by kernel_rfl) (by kernel_rfl) (by kernel_rfl) (fun _ _ _ h => h) (Or.inl ⟨by rfl, ?_⟩) (by assumption) ?_
 rotate_left
 · intro w hSw
   (try dsimp only at hSw)
   go_simp
   try with_reducible rfl
 try simp only [List.getElem_toArray, List.getElem_cons_succ, List.getElem_cons_zero, Act.put, List.setIfInBounds_toArray, List.set_cons_zero, List.set_cons_succ]
 refine wpAnyH_take (i := 14) (v := ?_) rfl (by kernel_rfl) (by kernel_rfl) (by kernel_rfl) (fun _ _ _ h => h) (Or.inl ⟨by rfl, ?_⟩) (by assumption) ?_
 rotate_left
 · intro w hSw
   obtain ⟨s0, s1, s2, s3, s4, s5, s6⟩ := cellsV hSw.1
   obtain ⟨t0, t1, t2, t3, t4, t5⟩ := cells6 hSw.2
   go_simp
   try with_reducible rfl
 try simp only [List.getElem_toArray, List.getElem_cons_succ, List.getElem_cons_zero, Act.put, List.setIfInBounds_toArray, List.set_cons_zero, List.set_cons_succ]
 refine wpAnyH_take (i := 15) (v := ?_) rfl (by kernel_rfl) (by kernel_rfl) (by kernel_rfl) (fun _ _ _ h => h) (Or.inl ⟨by rfl, ?_⟩) (by assumption) ?_
 rotate_left
 · intro w hSw
   obtain ⟨s0, s1, s2, s3, s4, s5, s6⟩ := cellsV hSw.1
   obtain ⟨t0, t1, t2, t3, t4, t5⟩ := cells6 hSw.2
   go_simp
   try with_reducible rfl
 try simp only [List.getElem_toArray, List.getElem_cons_succ, List.getElem_cons_zero, Act.put, List.setIfInBounds_toArray, List.set_cons_zero, List.set_cons_succ]
 refine wpAnyH_take (i := 16) (v := ?_) rfl (by kernel_rfl) (by kernel_rfl) (by kernel_rfl) (fun _ _ _ h => h) (Or.inl ⟨by rfl, ?_⟩) (by assumption) ?_
 rotate_left
 · intro w hSw
   (try dsimp only at hSw)
   go_simp
   try with_reducible rfl
 try simp only [List.getElem_toArray, List.getElem_cons_succ, List.getElem_cons_zero, Act.put, List.setIfInBounds_toArray, List.set_cons_zero, List.set_cons_succ]
 refine wpAnyH_take (i := 17) (v := ?_) rfl (by kernel_rfl) (by kernel_rfl) (by kernel_rfl) (fun _ _ _ h => h) (Or.inl ⟨by rfl, ?_⟩) (by assumption) ?_
 rotate_left
 · intro w hSw
   (try dsimp only at hSw)
   go_simp
   try with_reducible rfl
 try simp only [List.getElem_toArray, List.getElem_cons_succ, List.getElem_cons_zero, Act.put, List.setIfInBounds_toArray, List.set_cons_zero, List.set_cons_succ]
 refine wpAnyH_take (i := 18) (v := ?_) rfl (by kernel_rfl) (by kernel_rfl) (by kernel_rfl) (fun _ _ _ h => h) (Or.inl ⟨by rfl, ?_⟩) (by assumption) ?_
 rotate_left
 · intro w hSw
   obtain ⟨s0, s1, s2, s3, s4, s5, s6⟩ := cellsV hSw.1
   obtain ⟨t0, t1, t2, t3, t4, t5⟩ := cells6 hSw.2
   go_simp
   try with_reducible rfl
 try simp only [List.getElem_toArray, List.getElem_cons_succ, List.getElem_cons_zero, Act.put, List.setIfInBounds_toArray, List.set_cons_zero, List.set_cons_succ]
 refine wpAnyH_take (i := 19) (v := ?_) rfl (by kernel_rfl) (by kernel_rfl) (by kernel_rfl) (fun _ _ _ h => h) (Or.inl ⟨by rfl, ?_⟩) (by assumption) ?_
 rotate_left
 · intro w hSw
   obtain ⟨s0, s1, s2, s3, s4, s5, s6⟩ := cellsV hSw.1
   obtain ⟨t0, t1, t2, t3, t4, t5⟩ := cells6 hSw.2
   go_simp
   try with_reducible rfl
 try simp only [List.getElem_toArray, List.getElem_cons_succ, List.getElem_cons_zero, Act.put, List.setIfInBounds_toArray, List.set_cons_zero, List.set_cons_succ]
 refine wpAnyH_take (i := 20) (v := ?_) rfl (by kernel_rfl) (by kernel_rfl) (by kernel_rfl) (fun _ _ _ h => h) (Or.inl ⟨by rfl, ?_⟩) (by assumption) ?_
 rotate_left
 · intro w hSw
   obtain ⟨s0, s1, s2, s3, s4, s5, s6⟩ := cellsV hSw.1
   obtain ⟨t0, t1, t2, t3, t4, t5⟩ := cells6 hSw.2
   go_simp
   try with_reducible rfl
 try simp only [List.getElem_toArray, List.getElem_cons_succ, List.getElem_cons_zero, Act.put, List.setIfInBounds_toArray, List.set_cons_zero, List.set_cons_succ]
 refine wpAnyH_take (i := 21) (v := ?_) rfl (by kernel_rfl) (by kernel_rfl) (by kernel_rfl) (fun _ _ _ h => h) (Or.inl ⟨by rfl, ?_⟩) (by assumption) ?_
 rotate_left
 · intro w hSw
   obtain ⟨s0, s1, s2, s3, s4, s5, s6⟩ := cellsV hSw.1
   obtain ⟨t0, t1, t2, t3, t4, t5⟩ := cells6 hSw.2
   go_simp
   try with_reducible rfl
 try simp only [List.getElem_toArray, List.getElem_cons_succ, List.getElem_cons_zero, Act.put, List.setIfInBounds_toArray, List.set_cons_zero, List.set_cons_succ]
 refine wpAnyH_take (i := 23) (v := ?_) rfl (by kernel_rfl) (by kernel_rfl) (by kernel_rfl) (fun _ _ _ h => h) (Or.inl ⟨by rfl, ?_⟩) (by assumption) ?_
 rotate_left
 · intro w hSw
   obtain ⟨s0, s1, s2, s3, s4, s5, s6⟩ := cellsV hSw.1
   obtain ⟨t0, t1, t2, t3, t4, t5⟩ := cells6 hSw.2
   go_simp
   try with_reducible rfl
 try simp only [List.getElem_toArray, List.getElem_cons_succ, List.getElem_cons_zero, Act.put, List.setIfInBounds_toArray, List.set_cons_zero, List.set_cons_succ]
 refine wpAnyH_take (i := 24) (v := ?_) rfl (by kernel_rfl) (by kernel_rfl) (by kernel_rfl) (fun _ _ _ h => h) (Or.inl ⟨by rfl, ?_⟩) (by assumption) ?_
 rotate_left
 · intro w hSw
   obtain ⟨s0, s1, s2, s3, s4, s5, s6⟩ := cellsV hSw.1
   obtain ⟨t0, t1, t2, t3, t4, t5⟩ := cells6 hSw.2
   go_simp
   try with_reducible rfl
 try simp only [List.getElem_toArray, List.getElem_cons_succ, List.getElem_cons_zero, Act.put, List.setIfInBounds_toArray, List.set_cons_zero, List.set_cons_succ]
 refine wpAnyH_ready (rs := [22]) (by kernel_rfl) (by simp) ?_
 refine AllReadyH.cons rfl (fun K hK => ?_) AllReadyH.nil
 go_simp
 go_at_call 22
 refine (HL1.out _).mono ?_
 rintro e w3 ⟨rfl, hb3⟩
 obtain rfl := hb3
 have hb3 := Below.refl w2.heap.size w2
 have hC' := hC.trans (hb3.mono hC.size)
 have v0 := (hb3.block _ (row_lt u0)).trans u0
 have v1 := (hb3.block _ (row_lt u1)).trans u1
 clear hb3 hC u0 u1
 go_wp2_with fail
 refine hK.out _ _ ⟨v0, v1⟩ (fun hHn => ?_)
 clear hK K hHo
 have hHo := hHn
 clear hHn
 have u0 := v0
 have u1 := v1
 have hC := hC'
 clear v0 v1 hC'
 try simp only [List.getElem_toArray, List.getElem_cons_succ, List.getElem_cons_zero, Act.put, List.setIfInBounds_toArray, List.set_cons_zero, List.set_cons_succ]
 refine wpAnyH_take (i := 25) (v := ?_) rfl (by kernel_rfl) (by kernel_rfl) (by kernel_rfl) (fun _ _ _ h => h) (Or.inl ⟨by rfl, ?_⟩) (by assumption) ?_
 rotate_left
 · intro w hSw
   (try dsimp only at hSw)
   go_simp
   try with_reducible rfl
 try simp only [List.getElem_toArray, List.getElem_cons_succ, List.getElem_cons_zero, Act.put, List.setIfInBounds_toArray, List.set_cons_zero, List.set_cons_succ]
 refine wpAnyH_take (i := 26) (v := ?_) rfl (by kernel_rfl) (by kernel_rfl) (by kernel_rfl) (fun _ _ _ h => h) (Or.inl ⟨by rfl, ?_⟩) (by assumption) ?_
 rotate_left
 · intro w hSw
   (try dsimp only at hSw)
   go_simp
   try with_reducible rfl
 try simp only [List.getElem_toArray, List.getElem_cons_succ, List.getElem_cons_zero, Act.put, List.setIfInBounds_toArray, List.set_cons_zero, List.set_cons_succ]
 refine wpAnyH_take (i := 27) (v := ?_) rfl (by kernel_rfl) (by kernel_rfl) (by kernel_rfl) (fun _ _ _ h => h) (Or.inl ⟨by rfl, ?_⟩) (by assumption) ?_
 rotate_left
 · intro w hSw
   (try dsimp only at hSw)
   go_simp
   try with_reducible rfl
 try simp only [List.getElem_toArray, List.getElem_cons_succ, List.getElem_cons_zero, Act.put, List.setIfInBounds_toArray, List.set_cons_zero, List.set_cons_succ]
 refine wpAnyH_done (by kernel_rfl) ?_ _
 clear hHo
 have HB2 := Lib.hid (HB0.out.trans (hC.mono HB0.out.size))
 have Y0 := Lib.hid u0
 have Y1 := Lib.hid u1
 have Y2 := Lib.hid ((hC.block _ (row_lt R2.out)).trans R2.out)
 clear hC u0 u1 hn a0 a1 hk2 hge hne ht0
 have hk3 := HK3.out
 subst hk3
 obtain ⟨a0, a1, a2, a3, a4, a5, a6⟩ := cellsV Y0.out
 obtain ⟨n0, n1, n2, n3, n4, n5⟩ := cells6 Y1.out
 obtain ⟨z0, z1, z2, z3, z4, z5, z6⟩ := cellsV Y2.out
 have zf := row_free Y2.out
 rw [HXX.out] at n2
 have hi := HI.out
 have hl := HLI.out
 subst hi
 obtain ⟨d0, d1, d2, d3, d4, d5⟩ := HCC.out.block (HB2.out.block _ HCC.out.lt)
 have hlm := HLM.out
 have hli : (i : Int) < (n.ptrs.length : Int) := by omega
 go_wp2_with fail
 clear a0 a1 a2 a3 a4 a5 a6 n0 n1 n2 n3 n4 n5 z0 z1 z2 z3 z4 z5 z6 zf d0 d1 d2 d3 d4 d5
 refine (HCP.out _ HB2.out).mono ?_
 rintro e w5 ⟨h5, bs, rfl, ho, hd, hg, hb5⟩
 have hr5 := (hb5.block _ (row_lt Y2.out)).trans Y2.out
 have HR5 := Lib.hid hr5
 have HB5 := Lib.hid (HB2.out.trans (hb5.mono HB2.out.size))
 have HO := Lib.hid ho
 have HG := Lib.hid (And.intro hd hg)
 have hly := row_lt Y2.out
 obtain ⟨z0, z1, z2, z3, z4, z5, z6⟩ := cellsV hr5
 have zf := row_free hr5
 clear hb5 ho hd hg hr5
 go_wp2_with fail
 obtain ⟨wf, hwf, hrw, hbf, hkf⟩ := finV (w := w) (R := w.heap.size) (.int .i64 0) (.int .i64 y.kind) (.string y.data) (.slice h5.A y.ptrs.length h5.a) (.int .i64 y.size) (.int .i64 y.count) (.slice h5.B y.items.length h5.b) HR5.out HB5.out (by omega)
 rw [hwf]
 obtain ⟨e0, e1, e2, e3, e4, e5, e6⟩ := cellsV hrw
 exact bodyPost_ret (v := .tuple #[valV 0 y h5, .bool true]) (by simp [results, Try.results7, go_sem, e0, e1, e2, e3, e4, e5, e6]) rfl ⟨h5, bs, rfl, HO.out.frame (fun b hb => hkf _ (by have := HG.out.2 b hb; omega)), HG.out.1, fun b hb => by have := HG.out.2 b hb; have := HB2.out.size; omega, hbf⟩
theorem specAccessGet_a (nm : ByteArray) (k at_ sz tu tg pl : Int) (m : Nat) (n : Nd) (h : Hd) (w : World) (S : Nat → Prop) (hs : nm.size ≤ maxLen) (hn : NdAt w S m n h) (htn : totN m n ≤ 2000000) :
 Calls Try.prog 7 #[accV nm k at_ sz tu tg pl, .agg #[.int .i64 n.kind, .string n.data, .slice h.A n.ptrs.length h.a, .int .i64 n.size, .int .i64 n.count, .slice h.B n.items.length h.b]] w (NewVal (m + 1) (agN nm k at_ sz tu tg pl n) (agY nm k at_ sz tu tg pl n) (acB nm k at_ sz tu tg pl n) w) := by
 have no : acB nm k at_ sz tu tg pl n = false → NewVal (m + 1) (agN nm k at_ sz tu tg pl n) (agY nm k at_ sz tu tg pl n) (acB nm k at_ sz tu tg pl n) w = NewVal (m + 1) 0 noneNd false w := fun hB => by
  have e1 : agN nm k at_ sz tu tg pl n = 0 := by unfold agN; rw [hB]; rfl
  have e2 : agY nm k at_ sz tu tg pl n = noneNd := by unfold agY; rw [hB]; rfl
  rw [hB, e1, e2]
 by_cases hA : accB nm k at_ sz tu tg pl = true
 case neg =>
  have hA' : accB nm k at_ sz tu tg pl = false := by simpa using hA
  rw [no (by unfold acB; rw [hA']; rfl)]
  exact spGet_A nm k at_ sz tu tg pl m n h w S hs hn htn (m + 1) hA'
 by_cases hok : nodeOk n = true
 case neg =>
  have hok' : nodeOk n = false := by simpa using hok
  rw [no (by unfold acB; rw [hA, hok']; rfl)]
  exact spGet_B nm k at_ sz tu tg pl m n h w S hs hn htn (m + 1) hA hok'
 by_cases hk2 : n.kind = 2
 · rw [no (by unfold acB; rw [hA, hok, decide_eq_false (by simp [hk2])]; rfl)]
   exact spGet_C nm k at_ sz tu tg pl m n h w S hs hn htn (m + 1) hA hok hk2
 obtain ⟨a0, a1, a2, a3, hk, -⟩ := acc_ok hA
 have hwd : (byL n).length % 8 = 0 ∧ (byL n).length ≤ 1600 := node_bytes hok hk2
 have hB : acB nm k at_ sz tu tg pl n = (decide (tg < 0) || decide (getI (byL n) tg 2 = pl)) := by
  unfold acB
  rw [hA, hok, decide_eq_true hk2]
  rfl
 by_cases hno : 0 ≤ tg ∧ getI (byL n) tg 2 ≠ pl
 · rw [no (by rw [hB, decide_eq_false (by omega), decide_eq_false hno.2]; rfl)]
   exact spGet_D nm k at_ sz tu tg pl m n h w S hs hn htn (m + 1) hA hok hk2 hwd hno.1 a2 (by omega) hno.2
 have hBt : acB nm k at_ sz tu tg pl n = true := by
  rw [hB]
  by_cases e : tg < 0
  · rw [decide_eq_true e]; rfl
  · rw [decide_eq_false e, Bool.false_or, decide_eq_true_eq]
    exact Classical.byContradiction fun g => hno ⟨by omega, g⟩
 have e1 : agN nm k at_ sz tu tg pl n = acNum k at_ sz tu n := by unfold agN; rw [hBt]; rfl
 have e2 : agY nm k at_ sz tu tg pl n = acNode k at_ n := by unfold agY; rw [hBt]; rfl
 have hg : ¬ tg < 0 → 0 ≤ tg ∧ tg % 2 = 0 ∧ getI (byL n) tg 2 = pl := fun e => ⟨by omega, by omega, Classical.byContradiction fun g => hno ⟨by omega, g⟩⟩
 rw [hBt, e1, e2]
 rcases hk with ⟨rfl, -, -⟩ | ⟨rfl, hz, hm, -⟩ | ⟨rfl, -, -⟩
 · by_cases e : tg < 0
   · exact spGet_F1 nm 1 at_ sz tu tg pl m n h w S hs hn htn (m + 1) hA hok hk2 hwd a0 a1 rfl e
   · obtain ⟨h0, h1, h2⟩ := hg e
     exact spGet_E1 nm 1 at_ sz tu tg pl m n h w S hs hn htn (m + 1) hA hok hk2 hwd a0 a1 rfl h0 a2 h1 h2
 · by_cases e : tg < 0
   · exact spGet_F2 nm 2 at_ sz tu tg pl m n h w S hs hn htn (m + 1) hA hok hk2 hwd a0 a1 rfl hz hm e
   · obtain ⟨h0, h1, h2⟩ := hg e
     exact spGet_E2 nm 2 at_ sz tu tg pl m n h w S hs hn htn (m + 1) hA hok hk2 hwd a0 a1 rfl hz hm h0 a2 h1 h2
 · have e3 : acNum 3 at_ sz tu n = 0 := rfl
   rw [e3]
   by_cases hlt : at_ < n.ptrs.length
   · obtain ⟨i, hi⟩ := Int.eq_ofNat_of_zero_le a0
     have hil : i < n.ptrs.length := by omega
     obtain ⟨j, rfl⟩ := NdsAt.pred hn.2.1 hil
     obtain ⟨x, hd, hxe, hc, hne⟩ := NdsAt.at_ hn.2.1 hil
     have e4 : acNode 3 at_ n = n.ptrs[i] := by
      show (n.ptrs[at_.toNat]?).getD noneNd = _
      have : at_.toNat = i := by omega
      rw [this, List.getElem?_eq_getElem hil]
      rfl
     rw [e4]
     have hty : totN j n.ptrs[i] ≤ 2000000 := by
      have h1 := totL_at (m := j) hil
      have h2 : totN (j + 1) n = n.data.size + totL (j + 1) n.ptrs + totL (j + 1) n.items := by unfold totN; rfl
      omega
     by_cases e : tg < 0
     · exact (spGet_F3i nm 3 at_ sz tu tg pl (j + 1) n h w S hs hn htn 0 hA hok hk2 hwd a0 a1 rfl e j i _ hd x hi hil hxe hc hne hty).mono fun _ _ h => h.up
     · obtain ⟨h0, h1, h2⟩ := hg e
       exact (spGet_E3i nm 3 at_ sz tu tg pl (j + 1) n h w S hs hn htn 0 hA hok hk2 hwd a0 a1 rfl h0 a2 h1 h2 j i _ hd x hi hil hxe hc hne hty).mono fun _ _ h => h.up
   · have e4 : acNode 3 at_ n = noneNd := by
      show (n.ptrs[at_.toNat]?).getD noneNd = _
      rw [List.getElem?_eq_none (by omega)]
      rfl
     rw [e4]
     by_cases e : tg < 0
     · exact spGet_F3 nm 3 at_ sz tu tg pl m n h w S hs hn htn (m + 1) hA hok hk2 hwd a0 a1 rfl e (by omega)
     · obtain ⟨h0, h1, h2⟩ := hg e
       exact spGet_E3 nm 3 at_ sz tu tg pl m n h w S hs hn htn (m + 1) hA hok hk2 hwd a0 a1 rfl h0 a2 h1 h2 (by omega)
end Go.Proofs.Ytfnecflkahmjoaa
