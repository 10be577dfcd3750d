/- Texts of the proof of the law FnExactAccessPut, side by side: part 19. -/
import Derived.Deep.DeepCutAuto
import Derived.Test.YtfnecflkahmjoaaMExactAccessPut18
set_option maxHeartbeats 8000000
set_option maxRecDepth 100000
namespace Go.Proofs.Ytfnecflkahmjoaa
open Go.RowKit Go.Deep
theorem ap_len {k at_ sz tu tg pl num : Int} {l r : List UInt8} (h : apI k at_ sz tu tg pl num l = some r) : r.length ≤ l.length := by
 unfold apI at h
 split at h
 · cases h
 · rename_i l1 h1
   have hl : l1.length ≤ l.length := by
    split at h1
    · split at h1
      · cases h1
        exact bput_bd _ _ _
      · cases h1
    · split at h1
      · split at h1
        · cases h1
          exact put_bd _ _ _ _
        · cases h1
      · cases h1
   split at h
   · cases h
     exact hl
   · split at h
     · cases h
       exact Nat.le_trans (put_bd _ _ _ _) hl
     · cases h
structure NodO (m : Nat) (y : Nd) (B : Nat) (w : World) (vb : Nat) (hy : Hd) (bs : List Nat) : Prop where
 row : w.heap[vb]? = some (.cells #[.int .i64 y.kind, .string y.data, .slice hy.A y.ptrs.length hy.a, .int .i64 y.size, .int .i64 y.count, .slice hy.B y.items.length hy.b] nodeT (0, 0))
 own : OwN w m y hy bs
 nodup : bs.Nodup
 far : ∀ b ∈ bs, B ≤ b ∧ b ≠ vb
 base : B ≤ vb
theorem NodO.lt {m : Nat} {y : Nd} {B : Nat} {w : World} {vb : Nat} {hy : Hd} {bs : List Nat} (h : NodO m y B w vb hy bs) : vb < w.heap.size ∧ ∀ b ∈ bs, b < w.heap.size := ⟨row_lt h.row, fun b hb => (h.own.lt b hb).1⟩
theorem NodO.frame {m : Nat} {y : Nd} {B : Nat} {w w' : World} {vb : Nat} {hy : Hd} {bs : List Nat} (h : NodO m y B w vb hy bs) (h0 : w'.heap[vb]? = w.heap[vb]?) (h1 : ∀ b ∈ bs, w'.heap[b]? = w.heap[b]?) : NodO m y B w' vb hy bs := ⟨h0.trans h.row, h.own.frame h1, h.nodup, h.far, h.base⟩
theorem NodO.below {m : Nat} {y : Nd} {B : Nat} {w w' : World} {vb : Nat} {hy : Hd} {bs : List Nat} (h : NodO m y B w vb hy bs) (hb : Below w.heap.size w w') : NodO m y B w' vb hy bs := ⟨(hb.block _ h.lt.1).trans h.row, h.own.below hb, h.nodup, h.far, h.base⟩
theorem walkExactAccessPut (w : World) (nm : ByteArray) (hs : nm.size ≤ maxLen) (k at_ sz tu tg pl : Int) (_ : (Lit.int .i64 k).wf = true) (_ : (Lit.int .i64 at_).wf = true) (_ : (Lit.int .i64 sz).wf = true) (wtu : (Lit.int .i64 tu).wf = true) (_ : (Lit.int .i64 tg).wf = true) (wpl : (Lit.int .i64 pl).wf = true) (m : Nat) (n : Nd) (h : Hd) (hn : NdAt w Any m n h) (num : Int) (wnum : (Lit.int .i64 num).wf = true) :
 Calls Try.prog 4 #[accV nm k at_ sz tu tg pl, .agg #[.int .i64 n.kind, .string n.data, .slice h.A n.ptrs.length h.a, .int .i64 n.size, .int .i64 n.count, .slice h.B n.items.length h.b], .int .i64 num] w fun e w' => e = .returned (.bool true) ∧ Below w.heap.size w w' := by
 have HZ := Lib.hid (fun w => szAccess_any nm k at_ sz tu tg pl 1048576 w hs (by decide) (by decide))
 have HT := Lib.hid (toAccess_any nm k at_ sz tu tg pl)
 have q0 := al_first w (.cells #[.string nm, .int .i64 k, .int .i64 at_, .int .i64 sz, .int .i64 tu, .int .i64 tg, .int .i64 pl] 23)
 have q1 := al_next q0 (.cells #[.int .i64 n.kind, .string n.data, .slice h.A n.ptrs.length h.a, .int .i64 n.size, .int .i64 n.count, .slice h.B n.items.length h.b] 26)
 have r0 := heap_alloc_keep (heap_alloc_new w (.cells #[.string nm, .int .i64 k, .int .i64 at_, .int .i64 sz, .int .i64 tu, .int .i64 tg, .int .i64 pl] 23)) (.cells #[.int .i64 n.kind, .string n.data, .slice h.A n.ptrs.length h.a, .int .i64 n.size, .int .i64 n.count, .slice h.B n.items.length h.b] 26)
 have r1 := al_row q0 #[.int .i64 n.kind, .string n.data, .slice h.A n.ptrs.length h.a, .int .i64 n.size, .int .i64 n.count, .slice h.B n.items.length h.b] 26
 have HB0 := Lib.hid q1.2
 have R0 := Lib.hid r0
 have R1 := Lib.hid r1
 obtain ⟨a0, a1, a2, a3, a4, a5, a6⟩ := cellsV r0
 clear q1 q0 r0 r1
 by_cases hlong : (1048576 : Int) - nm.size < 0
 · have HL : Hid ((if (1048576 : Int) - (nm.size : Int) < 0 then -1 else (1048576 : Int) - (nm.size : Int)) = -1) := Lib.hid (by rw [if_pos hlong])
   clear hlong
   unfold accV at HZ ⊢
   go_enter Try.func4, Try.ntmps4
   go_wp2_with fail
   refine (HZ.out _).mono ?_
   rintro e w1 ⟨rfl, hb1⟩
   rw [HL.out]
   have HB1 := Lib.hid (HB0.out.trans (hb1.mono HB0.out.size))
   clear hb1 a0 a1 a2 a3 a4 a5 a6
   go_wp2
   go_ret
   exact ⟨rfl, HB1.out⟩
 obtain ⟨z, hz⟩ : ∃ z : Int, z = 1048576 - nm.size := ⟨_, rfl⟩
 have HL : Hid ((if (1048576 : Int) - (nm.size : Int) < 0 then -1 else (1048576 : Int) - (nm.size : Int)) = z) := Lib.hid (by rw [if_neg hlong, hz])
 have hz0 : ¬ z < 0 := by omega
 have HZB : Hid (0 ≤ z ∧ z ≤ 1048576) := Lib.hid (by omega)
 clear hlong hz
 have HSN := Lib.hid (fun (W : World) (hW : Below w.heap.size w W) => szN_any m n h W z Any (hn.below hW) HZB.out.1 (by have := HZB.out.2; omega))
 by_cases hbig : z < (totN m n : Nat)
 · rw [szR_neg hbig] at HSN
   clear hbig
   unfold accV at HZ ⊢
   go_enter Try.func4, Try.ntmps4
   go_wp2_with fail
   refine (HZ.out _).mono ?_
   rintro e w1 ⟨rfl, hb1⟩
   rw [HL.out]
   have HB1 := Lib.hid (HB0.out.trans (hb1.mono HB0.out.size))
   obtain ⟨n0, n1, n2, n3, n4, n5⟩ := cells6 ((hb1.block _ (row_lt R1.out)).trans R1.out)
   clear hb1 a0 a1 a2 a3 a4 a5 a6
   go_wp2_with fail
   refine (HSN.out _ HB1.out).mono ?_
   rintro e w2 ⟨rfl, hb2⟩
   have HB2 := Lib.hid (HB1.out.trans (hb2.mono HB1.out.size))
   clear hb2 n0 n1 n2 n3 n4 n5
   go_wp2
   go_ret
   exact ⟨rfl, HB2.out⟩
 have ht : totN m n ≤ 1048576 := by have := HZB.out; omega
 have hsz : sizN n ≤ 1048576 := by rw [← totN_siz hn]; exact ht
 rw [szR_pos (by omega)] at HSN
 obtain ⟨z2, hz2⟩ : ∃ z2 : Int, z2 = z - (totN m n : Nat) := ⟨_, rfl⟩
 rw [← hz2] at HSN
 have hz20 : ¬ z2 < 0 := by omega
 clear hz2 hbig
 obtain ⟨y, hy⟩ : ∃ y, apY nm k at_ sz tu tg pl num n = y := ⟨_, rfl⟩
 obtain ⟨ok, hok⟩ : ∃ ok, apB nm k at_ sz tu tg pl num n = ok := ⟨_, rfl⟩
 have hysz : sizN y ≤ 1048576 := by
  rw [← hy]
  unfold apY
  split
  · rename_i hc
    have hnk : nodeOk n = true ∧ n.kind = 1 := by
     unfold apC at hc
     simp only [Bool.and_eq_true, decide_eq_true_eq] at hc
     exact ⟨hc.2.2, hc.2.1⟩
    split
    · rename_i l hl
      have h1 := ap_len hl
      have h2 := sizN_eq n
      have h3 := sizN_eq (withD n (baL l))
      have h4 : (withD n (baL l)).data.size = l.length := baL_size l
      have h5 : (withD n (baL l)).ptrs = n.ptrs := rfl
      have h6 : (withD n (baL l)).items = n.items := rfl
      have h7 : (byL n).length = n.data.size := by simp
      rw [h4, h5, h6] at h3
      omega
    · omega
  · exact Nat.le_trans (by decide : sizN noneNd ≤ 0) (Nat.zero_le _)
 have hy2 : sizN y ≤ 2000000 := by omega
 have HTN := Lib.hid (fun (W : World) (hW : Below w.heap.size w W) => toNO_any m n h W Any (hn.below hW) (by omega))
 have HSA := Lib.hid (fun (W : World) (S : Nat → Prop) (g : Hd) (hg : NdAt W S m n g) => specAccessPut_a nm k at_ sz tu tg pl num m n g W S hs (wf_bd wnum) hg (by omega))
 have HIA := Lib.hid (fun (W : World) (S : Nat → Prop) (g : Hd) (hg : NdAt W S m n g) => implAccessPut_a nm k at_ sz tu tg pl num m n g W S hs (wf_bd wtu) (wf_bd wpl) hg (by omega))
 rw [hy, hok] at HSA HIA
 have HEV := Lib.hid (fun (W : World) (S S' : Nat → Prop) (g g' : Hd) (a : NdAt W S (m + 1) y g) (b : NdAt W S' (m + 1) y g') => eqN_any (m + 1) y g g' W S S' a b (by rw [totN_siz a]; exact hy2))
 have HEN := Lib.hid (fun (W : World) (S S' : Nat → Prop) (g g' : Hd) (a : NdAt W S m n g) (b : NdAt W S' m n g') => eqN_any m n g g' W S S' a b (by rw [totN_siz a]; omega))
 have HMN := Lib.hid (fun (g : Hd) (bs : List Nat) (W : World) (a : OwN W m n g bs) (b : bs.Nodup) => markNode_any m n g bs W 1 a b (by omega) (by omega))
 have HMV := Lib.hid (fun (g : Hd) (bs : List Nat) (W : World) (a : OwN W (m + 1) y g bs) (b : bs.Nodup) => markNode_any (m + 1) y g bs W 1 a b (by omega) (by omega))
 have HHV := Lib.hid (fun (g : Hd) (bs : List Nat) (W : World) (S : Nat → Prop) (q1 q2 : Nat) (p i : List Nd) (a : NdAt W S (m + 1) (.mk y.kind y.data p y.size y.count i) g) (hp : HelS (m + 1) p 1 q1) (hi : HelS (m + 1) i q1 q2) (hq : q2 ≤ 200000000) => heldNode_any (m + 1) (.mk y.kind y.data p y.size y.count i) g W S 1 q1 q2 a hp hi (by omega) hq)
 clear hy hy2 hok hysz ht hsz hn hs wtu wpl wnum
 unfold NewO at HTN
 unfold NewNP at HSA HIA
 unfold MkN at HMN HMV
 unfold accV at HZ HT HSA HIA ⊢
 go_enter Try.func4, Try.ntmps4
 go_wp2_with fail
 generalize (w.alloc (.cells #[.string nm, .int .i64 k, .int .i64 at_, .int .i64 sz, .int .i64 tu, .int .i64 tg, .int .i64 pl] 23)).alloc (.cells #[.int .i64 n.kind, .string n.data, .slice h.A n.ptrs.length h.a, .int .i64 n.size, .int .i64 n.count, .slice h.B n.items.length h.b] 26) = W at *
 refine (HZ.out _).mono ?_
 rintro e w1 ⟨rfl, hb1⟩
 rw [HL.out]
 have HB1 := Lib.hid (HB0.out.trans (hb1.mono HB0.out.size))
 have X0 := Lib.hid ((hb1.block _ (row_lt R0.out)).trans R0.out)
 have X1 := Lib.hid ((hb1.block _ (row_lt R1.out)).trans R1.out)
 obtain ⟨n0, n1, n2, n3, n4, n5⟩ := cells6 X1.out
 clear hb1 a0 a1 a2 a3 a4 a5 a6
 go_wp2_with fail
 refine (HSN.out _ HB1.out).mono ?_
 rintro e w2 ⟨rfl, hb2⟩
 have HB2 := Lib.hid (HB1.out.trans (hb2.mono HB1.out.size))
 have Y0 := Lib.hid ((hb2.block _ (row_lt X0.out)).trans X0.out)
 have Y1 := Lib.hid ((hb2.block _ (row_lt X1.out)).trans X1.out)
 clear hb2 n0 n1 n2 n3 n4 n5 HZ HSN HL
 go_upto_region 8 with fail
 go_cut [8, 9] (fun s6 s7 wx => ∃ (vb : Nat) (hy : Hd) (bs : List Nat), s6 = .pointer (some ⟨vb, 0, none⟩) ∧ s7 = .bool ok ∧ Hid (NodO (m + 1) y w2.heap.size wx vb hy bs) ∧ Hid (Below w2.heap.size w2 wx))
 case first =>
  have HDR : Hid (Below w2.heap.size w2 w2.drew) := Lib.hid ⟨rfl, rfl, rfl, Nat.le_refl _, fun _ _ => rfl⟩
  refine wp_region_held_drew (S := (fun V => V.heap[w.heap.size]? = some (.cells #[.string nm, .int .i64 k, .int .i64 at_, .int .i64 sz, .int .i64 tu, .int .i64 tg, .int .i64 pl] 23 (0, 0)) ∧ V.heap[w.heap.size + 1]? = some (.cells #[.int .i64 n.kind, .string n.data, .slice h.A n.ptrs.length h.a, .int .i64 n.size, .int .i64 n.count, .slice h.B n.items.length h.b] 26 (0, 0)))) (by kernel_rfl) ?_ (fun hH0 => ?_)
  · exact ⟨Y0.out, Y1.out⟩
  have hC := HDR.out
  have hHo := hH0
  clear hH0
  have u0 := Y0.out
  have u1 := Y1.out
  refine wpAnyH_take (i := 0) (v := .agg #[.string nm, .int .i64 k, .int .i64 at_, .int .i64 sz, .int .i64 tu, .int .i64 tg, .int .i64 pl]) rfl (by kernel_rfl) (by kernel_rfl) (by kernel_rfl) (fun _ _ _ h => h) (Or.inl ⟨by rfl, ?_⟩) (by assumption) ?_
  · intro w hSw
    obtain ⟨s0, s1, s2, s3, s4, s5, s6⟩ := cellsV hSw.1
    obtain ⟨t0, t1, t2, t3, t4, t5⟩ := cells6 hSw.2
    go_simp
  try simp only [List.getElem_toArray, List.getElem_cons_succ, List.getElem_cons_zero, Act.put, List.setIfInBounds_toArray, List.set_cons_zero, List.set_cons_succ]
  refine wpAnyH_take (i := 2) (v := .agg #[.int .i64 n.kind, .string n.data, .slice h.A n.ptrs.length h.a, .int .i64 n.size, .int .i64 n.count, .slice h.B n.items.length h.b]) rfl (by kernel_rfl) (by kernel_rfl) (by kernel_rfl) (fun _ _ _ h => h) (Or.inl ⟨by rfl, ?_⟩) (by assumption) ?_
  · intro w hSw
    obtain ⟨s0, s1, s2, s3, s4, s5, s6⟩ := cellsV hSw.1
    obtain ⟨t0, t1, t2, t3, t4, t5⟩ := cells6 hSw.2
    go_simp
  try simp only [List.getElem_toArray, List.getElem_cons_succ, List.getElem_cons_zero, Act.put, List.setIfInBounds_toArray, List.set_cons_zero, List.set_cons_succ]
  refine wpAnyH_take (i := 4) (v := ?_) rfl (by kernel_rfl) (by kernel_rfl) (by kernel_rfl) (fun _ _ _ h => h) (Or.inl ⟨by rfl, ?_⟩) (by assumption) ?_
  rotate_left
  · intro w hSw
    (try dsimp only at hSw)
    go_simp
    try with_reducible rfl
  try simp only [List.getElem_toArray, List.getElem_cons_succ, List.getElem_cons_zero, Act.put, List.setIfInBounds_toArray, List.set_cons_zero, List.set_cons_succ]
  refine wpAnyH_ready (rs := [1, 9]) (by kernel_rfl) (by simp) ?_
  refine AllReadyH.cons rfl (fun K hK => ?_) (AllReadyH.cons rfl (fun K hK => ?_) AllReadyH.nil)
  · go_simp
    go_at_call 8
    refine (HT.out _).mono ?_
    rintro e w30 ⟨rfl, hb3⟩
    have hC' := hC.trans (hb3.mono hC.size)
    have vu0 := (hb3.block _ (row_lt u0)).trans u0
    have vu1 := (hb3.block _ (row_lt u1)).trans u1
    clear u0 u1
    have u0 := vu0
    clear vu0
    have u1 := vu1
    clear vu1
    clear hb3 hC
    go_wp2_with fail
    refine hK.out _ _ ⟨u0, u1⟩ (fun hHn => ?_)
    clear hK K hHo
    have hHo := hHn
    clear hHn
    try simp only [List.getElem_toArray, List.getElem_cons_succ, List.getElem_cons_zero, Act.put, List.setIfInBounds_toArray, List.set_cons_zero, List.set_cons_succ]
    have hC := hC'
    clear hC'
    refine wpAnyH_ready (rs := [3, 9]) (by kernel_rfl) (by simp) ?_
    refine AllReadyH.cons rfl (fun K hK => ?_) (AllReadyH.cons rfl (fun K hK => ?_) AllReadyH.nil)
    · go_simp
      go_at_call 9
      refine (HTN.out _ (HB2.out.trans (hC.mono HB2.out.size))).mono ?_
      rintro e w31 ⟨g2, bs2, rfl, ho2, -, -, hb3⟩
      have hC' := hC.trans (hb3.mono hC.size)
      have vu0 := (hb3.block _ (row_lt u0)).trans u0
      have vu1 := (hb3.block _ (row_lt u1)).trans u1
      clear u0 u1
      have u0 := vu0
      clear vu0
      have u1 := vu1
      clear vu1
      clear hb3 hC
      go_wp2_with fail
      refine hK.out _ _ ⟨u0, u1⟩ (fun hHn => ?_)
      clear hK K hHo
      have hHo := hHn
      clear hHn
      try simp only [List.getElem_toArray, List.getElem_cons_succ, List.getElem_cons_zero, Act.put, List.setIfInBounds_toArray, List.set_cons_zero, List.set_cons_succ]
      have hC := hC'
      clear hC'
      refine wpAnyH_ready (rs := [5, 9]) (by kernel_rfl) (by simp) ?_
      refine AllReadyH.cons rfl (fun K hK => ?_) (AllReadyH.cons rfl (fun K hK => ?_) AllReadyH.nil)
      · go_simp
        go_at_call 16
        refine (HSA.out _ _ g2 ho2.nd).mono ?_
        rintro e w32 ⟨hy, bs, rfl, hov, hnd, hg, hb3⟩
        clear ho2
        have hC' := hC.trans (hb3.mono hC.size)
        have hgs : w2.heap.size ≤ w31.heap.size := hC.size
        have hlt := fun b hb => (hov.lt b hb).1
        have vu0 := (hb3.block _ (row_lt u0)).trans u0
        have vu1 := (hb3.block _ (row_lt u1)).trans u1
        clear u0 u1
        have u0 := vu0
        clear vu0
        have u1 := vu1
        clear vu1
        clear hb3 hC
        go_wp2_with fail
        refine hK.out _ _ ⟨u0, u1⟩ (fun hHn => ?_)
        clear hK K hHo
        have hHo := hHn
        clear hHn
        try simp only [List.getElem_toArray, List.getElem_cons_succ, List.getElem_cons_zero, Act.put, List.setIfInBounds_toArray, List.set_cons_zero, List.set_cons_succ]
        have hC := hC'
        clear hC'
        refine wpAnyH_take (i := 6) (v := ?_) rfl (by kernel_rfl) (by kernel_rfl) (by kernel_rfl) (fun _ _ _ h => h) (Or.inl ⟨by rfl, ?_⟩) (by assumption) ?_
        rotate_left
        · intro w hSw
          (try dsimp only at hSw)
          go_simp
          try with_reducible rfl
        try simp only [List.getElem_toArray, List.getElem_cons_succ, List.getElem_cons_zero, Act.put, List.setIfInBounds_toArray, List.set_cons_zero, List.set_cons_succ]
        refine wpAnyH_take (i := 7) (v := ?_) rfl (by kernel_rfl) (by kernel_rfl) (by kernel_rfl) (fun _ _ _ h => h) (Or.inl ⟨by rfl, ?_⟩) (by assumption) ?_
        rotate_left
        · intro w hSw
          (try dsimp only at hSw)
          go_simp
          try with_reducible rfl
        try simp only [List.getElem_toArray, List.getElem_cons_succ, List.getElem_cons_zero, Act.put, List.setIfInBounds_toArray, List.set_cons_zero, List.set_cons_succ]
        refine wpAnyH_take (i := 8) (v := ?_) rfl (by kernel_rfl) (by kernel_rfl) (by kernel_rfl) (fun _ _ _ h => h) (Or.inl ⟨by rfl, ?_⟩) (by assumption) ?_
        rotate_left
        · intro w hSw
          (try dsimp only at hSw)
          go_simp
          try with_reducible rfl
        try simp only [List.getElem_toArray, List.getElem_cons_succ, List.getElem_cons_zero, Act.put, List.setIfInBounds_toArray, List.set_cons_zero, List.set_cons_succ]
        refine wpAnyH_ready (rs := [9]) (by kernel_rfl) (by simp) ?_
        refine AllReadyH.cons rfl (fun K hK => ?_) AllReadyH.nil
        go_simp
        have hba : Below w32.heap.size w32 ((w32.alloc (.cells #[.int .i64 0, .string { data := #[] }, .slice none 0 0, .int .i64 0, .int .i64 0, .slice none 0 0] nodeT))) := (Below.refl w32.heap.size w32).alloc (Nat.le_refl _) (.cells #[.int .i64 0, .string { data := #[] }, .slice none 0 0, .int .i64 0, .int .i64 0, .slice none 0 0] nodeT)
        have hC' : Below w2.heap.size w2 ((w32.alloc (.cells #[.int .i64 0, .string { data := #[] }, .slice none 0 0, .int .i64 0, .int .i64 0, .slice none 0 0] nodeT))) := hC.trans (hba.mono hC.size)
        have ub : ((w32.alloc (.cells #[.int .i64 0, .string { data := #[] }, .slice none 0 0, .int .i64 0, .int .i64 0, .slice none 0 0] nodeT))).heap[w32.heap.size]? = some (.cells #[.int .i64 0, .string { data := #[] }, .slice none 0 0, .int .i64 0, .int .i64 0, .slice none 0 0] nodeT (0, 0)) := heap_alloc_new w32 (.cells #[.int .i64 0, .string { data := #[] }, .slice none 0 0, .int .i64 0, .int .i64 0, .slice none 0 0] nodeT)
        obtain ⟨vb, hvbe⟩ : ∃ vb, vb = w32.heap.size := ⟨_, rfl⟩
        have hvb : w2.heap.size ≤ vb := by rw [hvbe]; exact hC.size
        have vu0 := (hba.block _ (row_lt u0)).trans u0
        have vu1 := (hba.block _ (row_lt u1)).trans u1
        have vhov := hov.below hba
        clear u0 u1 hov
        have u0 := vu0
        clear vu0
        have u1 := vu1
        clear vu1
        have hov := vhov
        clear vhov
        have hfar : ∀ b ∈ bs, w2.heap.size ≤ b ∧ b ≠ vb := fun b hb => ⟨by have := hg b hb; have := hgs; omega, by have := hlt b hb; omega⟩
        clear hba hC
        rw [← hvbe] at ub ⊢
        clear hvbe
        generalize ((w32.alloc (.cells #[.int .i64 0, .string { data := #[] }, .slice none 0 0, .int .i64 0, .int .i64 0, .slice none 0 0] nodeT))) = wa at *
        refine hK.out _ _ ⟨u0, u1⟩ (fun hHn => ?_)
        clear hK K hHo
        have hHo := hHn
        clear hHn
        try simp only [List.getElem_toArray, List.getElem_cons_succ, List.getElem_cons_zero, Act.put, List.setIfInBounds_toArray, List.set_cons_zero, List.set_cons_succ]
        have hC := hC'
        clear hC'
        refine wpAnyH_ready (rs := [10]) (by kernel_rfl) (by simp) ?_
        refine AllReadyH.cons rfl (fun K hK => ?_) AllReadyH.nil
        obtain ⟨z0, z1, z2', z3, z4, z5⟩ := cells6 ub
        have zf := row_free ub
        go_simp
        obtain ⟨wf, hwf, hrw, hbf, hkf⟩ := finN (w := w2) (R := w2.heap.size) (.int .i64 y.kind) (.string y.data) (.slice hy.A y.ptrs.length hy.a) (.int .i64 y.size) (.int .i64 y.count) (.slice hy.B y.items.length hy.b) ub hC hvb
        have HWF := Lib.hid hwf
        have HVO : Hid (NodO (m + 1) y w2.heap.size wf vb hy bs) := Lib.hid ⟨hrw, hov.frame (fun b hb => hkf b (hfar b hb).2), hnd, hfar, hvb⟩
        have HBF := Lib.hid hbf
        have x0 := (hbf.block _ (row_lt Y0.out)).trans Y0.out
        have x1 := (hbf.block _ (row_lt Y1.out)).trans Y1.out
        clear hwf z0 z1 z2' z3 z4 z5 zf ub hC hkf hrw hbf hov hfar hnd hg hlt hgs hvb
        rw [HWF.out]
        refine hK.out _ _ ⟨x0, x1⟩ (fun hHn => ?_)
        clear HWF x0 x1
        clear hK K hHo
        have hHo := hHn
        clear hHn
        try simp only [List.getElem_toArray, List.getElem_cons_succ, List.getElem_cons_zero, Act.put, List.setIfInBounds_toArray, List.set_cons_zero, List.set_cons_succ]
        refine wpAnyH_take (i := 11) (v := ?_) rfl (by kernel_rfl) (by kernel_rfl) (by kernel_rfl) (fun _ _ _ h => h) (Or.inl ⟨by rfl, ?_⟩) (by assumption) ?_
        rotate_left
        · intro w hSw
          (try dsimp only at hSw)
          go_simp
          try with_reducible rfl
        try simp only [List.getElem_toArray, List.getElem_cons_succ, List.getElem_cons_zero, Act.put, List.setIfInBounds_toArray, List.set_cons_zero, List.set_cons_succ]
        refine wpAnyH_done (by kernel_rfl) ?_ _
        clear hHo
        go_wp2_with fail
        go_meet
        case rel => exact ⟨vb, hy, bs, rfl, rfl, HVO, HBF⟩
      · go_simp
        have hba : Below w31.heap.size w31 ((w31.alloc (.cells #[.int .i64 0, .string { data := #[] }, .slice none 0 0, .int .i64 0, .int .i64 0, .slice none 0 0] nodeT))) := (Below.refl w31.heap.size w31).alloc (Nat.le_refl _) (.cells #[.int .i64 0, .string { data := #[] }, .slice none 0 0, .int .i64 0, .int .i64 0, .slice none 0 0] nodeT)
        have hC' : Below w2.heap.size w2 ((w31.alloc (.cells #[.int .i64 0, .string { data := #[] }, .slice none 0 0, .int .i64 0, .int .i64 0, .slice none 0 0] nodeT))) := hC.trans (hba.mono hC.size)
        have ub : ((w31.alloc (.cells #[.int .i64 0, .string { data := #[] }, .slice none 0 0, .int .i64 0, .int .i64 0, .slice none 0 0] nodeT))).heap[w31.heap.size]? = some (.cells #[.int .i64 0, .string { data := #[] }, .slice none 0 0, .int .i64 0, .int .i64 0, .slice none 0 0] nodeT (0, 0)) := heap_alloc_new w31 (.cells #[.int .i64 0, .string { data := #[] }, .slice none 0 0, .int .i64 0, .int .i64 0, .slice none 0 0] nodeT)
        obtain ⟨vb, hvbe⟩ : ∃ vb, vb = w31.heap.size := ⟨_, rfl⟩
        have hvb : w2.heap.size ≤ vb := by rw [hvbe]; exact hC.size
        have vu0 := (hba.block _ (row_lt u0)).trans u0
        have vu1 := (hba.block _ (row_lt u1)).trans u1
        have vho2 := ho2.below hba
        clear u0 u1 ho2
        have u0 := vu0
        clear vu0
        have u1 := vu1
        clear vu1
        have ho2 := vho2
        clear vho2
        clear hba hC
        rw [← hvbe] at ub ⊢
        clear hvbe
        generalize ((w31.alloc (.cells #[.int .i64 0, .string { data := #[] }, .slice none 0 0, .int .i64 0, .int .i64 0, .slice none 0 0] nodeT))) = wa at *
        refine hK.out _ _ ⟨u0, u1⟩ (fun hHn => ?_)
        clear hK K hHo
        have hHo := hHn
        clear hHn
        try simp only [List.getElem_toArray, List.getElem_cons_succ, List.getElem_cons_zero, Act.put, List.setIfInBounds_toArray, List.set_cons_zero, List.set_cons_succ]
        have hC := hC'
        clear hC'
        refine wpAnyH_ready (rs := [5]) (by kernel_rfl) (by simp) ?_
        refine AllReadyH.cons rfl (fun K hK => ?_) AllReadyH.nil
        go_simp
        go_at_call 16
        refine (HSA.out _ _ g2 ho2.nd).mono ?_
        rintro e w32 ⟨hy, bs, rfl, hov, hnd, hg, hb3⟩
        clear ho2
        have hC' := hC.trans (hb3.mono hC.size)
        have hgs : w2.heap.size ≤ wa.heap.size := hC.size
        have hlt := fun b hb => (hov.lt b hb).1
        have hvl := row_lt ub
        have hfar : ∀ b ∈ bs, w2.heap.size ≤ b ∧ b ≠ vb := fun b hb => ⟨by have := hg b hb; omega, by have := hg b hb; omega⟩
        have vu0 := (hb3.block _ (row_lt u0)).trans u0
        have vu1 := (hb3.block _ (row_lt u1)).trans u1
        have vub := (hb3.block _ (row_lt ub)).trans ub
        clear u0 u1 ub
        have u0 := vu0
        clear vu0
        have u1 := vu1
        clear vu1
        have ub := vub
        clear vub
        clear hb3 hC
        go_wp2_with fail
        refine hK.out _ _ ⟨u0, u1⟩ (fun hHn => ?_)
        clear hK K hHo
        have hHo := hHn
        clear hHn
        try simp only [List.getElem_toArray, List.getElem_cons_succ, List.getElem_cons_zero, Act.put, List.setIfInBounds_toArray, List.set_cons_zero, List.set_cons_succ]
        have hC := hC'
        clear hC'
        refine wpAnyH_take (i := 6) (v := ?_) rfl (by kernel_rfl) (by kernel_rfl) (by kernel_rfl) (fun _ _ _ h => h) (Or.inl ⟨by rfl, ?_⟩) (by assumption) ?_
        rotate_left
        · intro w hSw
          (try dsimp only at hSw)
          go_simp
          try with_reducible rfl
        try simp only [List.getElem_toArray, List.getElem_cons_succ, List.getElem_cons_zero, Act.put, List.setIfInBounds_toArray, List.set_cons_zero, List.set_cons_succ]
        refine wpAnyH_take (i := 7) (v := ?_) rfl (by kernel_rfl) (by kernel_rfl) (by kernel_rfl) (fun _ _ _ h => h) (Or.inl ⟨by rfl, ?_⟩) (by assumption) ?_
        rotate_left
        · intro w hSw
          (try dsimp only at hSw)
          go_simp
          try with_reducible rfl
        try simp only [List.getElem_toArray, List.getElem_cons_succ, List.getElem_cons_zero, Act.put, List.setIfInBounds_toArray, List.set_cons_zero, List.set_cons_succ]
        refine wpAnyH_take (i := 8) (v := ?_) rfl (by kernel_rfl) (by kernel_rfl) (by kernel_rfl) (fun _ _ _ h => h) (Or.inl ⟨by rfl, ?_⟩) (by assumption) ?_
        rotate_left
        · intro w hSw
          (try dsimp only at hSw)
          go_simp
          try with_reducible rfl
        try simp only [List.getElem_toArray, List.getElem_cons_succ, List.getElem_cons_zero, Act.put, List.setIfInBounds_toArray, List.set_cons_zero, List.set_cons_succ]
        refine wpAnyH_ready (rs := [10]) (by kernel_rfl) (by simp) ?_
        refine AllReadyH.cons rfl (fun K hK => ?_) AllReadyH.nil
        obtain ⟨z0, z1, z2', z3, z4, z5⟩ := cells6 ub
        have zf := row_free ub
        go_simp
        obtain ⟨wf, hwf, hrw, hbf, hkf⟩ := finN (w := w2) (R := w2.heap.size) (.int .i64 y.kind) (.string y.data) (.slice hy.A y.ptrs.length hy.a) (.int .i64 y.size) (.int .i64 y.count) (.slice hy.B y.items.length hy.b) ub hC hvb
        have HWF := Lib.hid hwf
        have HVO : Hid (NodO (m + 1) y w2.heap.size wf vb hy bs) := Lib.hid ⟨hrw, hov.frame (fun b hb => hkf b (hfar b hb).2), hnd, hfar, hvb⟩
        have HBF := Lib.hid hbf
        have x0 := (hbf.block _ (row_lt Y0.out)).trans Y0.out
        have x1 := (hbf.block _ (row_lt Y1.out)).trans Y1.out
        clear hwf z0 z1 z2' z3 z4 z5 zf ub hC hkf hrw hbf hov hfar hnd hg hlt hgs hvb
        rw [HWF.out]
        refine hK.out _ _ ⟨x0, x1⟩ (fun hHn => ?_)
        clear HWF x0 x1
        clear hK K hHo
        have hHo := hHn
        clear hHn
        try simp only [List.getElem_toArray, List.getElem_cons_succ, List.getElem_cons_zero, Act.put, List.setIfInBounds_toArray, List.set_cons_zero, List.set_cons_succ]
        refine wpAnyH_take (i := 11) (v := ?_) rfl (by kernel_rfl) (by kernel_rfl) (by kernel_rfl) (fun _ _ _ h => h) (Or.inl ⟨by rfl, ?_⟩) (by assumption) ?_
        rotate_left
        · intro w hSw
          (try dsimp only at hSw)
          go_simp
          try with_reducible rfl
        try simp only [List.getElem_toArray, List.getElem_cons_succ, List.getElem_cons_zero, Act.put, List.setIfInBounds_toArray, List.set_cons_zero, List.set_cons_succ]
        refine wpAnyH_done (by kernel_rfl) ?_ _
        clear hHo
        go_wp2_with fail
        go_meet
        case rel => exact ⟨vb, hy, bs, rfl, rfl, HVO, HBF⟩
    · go_simp
      have hba : Below w30.heap.size w30 ((w30.alloc (.cells #[.int .i64 0, .string { data := #[] }, .slice none 0 0, .int .i64 0, .int .i64 0, .slice none 0 0] nodeT))) := (Below.refl w30.heap.size w30).alloc (Nat.le_refl _) (.cells #[.int .i64 0, .string { data := #[] }, .slice none 0 0, .int .i64 0, .int .i64 0, .slice none 0 0] nodeT)
      have hC' : Below w2.heap.size w2 ((w30.alloc (.cells #[.int .i64 0, .string { data := #[] }, .slice none 0 0, .int .i64 0, .int .i64 0, .slice none 0 0] nodeT))) := hC.trans (hba.mono hC.size)
      have ub : ((w30.alloc (.cells #[.int .i64 0, .string { data := #[] }, .slice none 0 0, .int .i64 0, .int .i64 0, .slice none 0 0] nodeT))).heap[w30.heap.size]? = some (.cells #[.int .i64 0, .string { data := #[] }, .slice none 0 0, .int .i64 0, .int .i64 0, .slice none 0 0] nodeT (0, 0)) := heap_alloc_new w30 (.cells #[.int .i64 0, .string { data := #[] }, .slice none 0 0, .int .i64 0, .int .i64 0, .slice none 0 0] nodeT)
      obtain ⟨vb, hvbe⟩ : ∃ vb, vb = w30.heap.size := ⟨_, rfl⟩
      have hvb : w2.heap.size ≤ vb := by rw [hvbe]; exact hC.size
      have vu0 := (hba.block _ (row_lt u0)).trans u0
      have vu1 := (hba.block _ (row_lt u1)).trans u1
      clear u0 u1
      have u0 := vu0
      clear vu0
      have u1 := vu1
      clear vu1
      clear hba hC
      rw [← hvbe] at ub ⊢
      clear hvbe
      generalize ((w30.alloc (.cells #[.int .i64 0, .string { data := #[] }, .slice none 0 0, .int .i64 0, .int .i64 0, .slice none 0 0] nodeT))) = wa at *
      refine hK.out _ _ ⟨u0, u1⟩ (fun hHn => ?_)
      clear hK K hHo
      have hHo := hHn
      clear hHn
      try simp only [List.getElem_toArray, List.getElem_cons_succ, List.getElem_cons_zero, Act.put, List.setIfInBounds_toArray, List.set_cons_zero, List.set_cons_succ]
      have hC := hC'
      clear hC'
      refine wpAnyH_ready (rs := [3]) (by kernel_rfl) (by simp) ?_
      refine AllReadyH.cons rfl (fun K hK => ?_) AllReadyH.nil
      go_simp
      go_at_call 9
      refine (HTN.out _ (HB2.out.trans (hC.mono HB2.out.size))).mono ?_
      rintro e w31 ⟨g2, bs2, rfl, ho2, -, -, hb3⟩
      have hC' := hC.trans (hb3.mono hC.size)
      have vu0 := (hb3.block _ (row_lt u0)).trans u0
      have vu1 := (hb3.block _ (row_lt u1)).trans u1
      have vub := (hb3.block _ (row_lt ub)).trans ub
      clear u0 u1 ub
      have u0 := vu0
      clear vu0
      have u1 := vu1
      clear vu1
      have ub := vub
      clear vub
      clear hb3 hC
      go_wp2_with fail
      refine hK.out _ _ ⟨u0, u1⟩ (fun hHn => ?_)
      clear hK K hHo
      have hHo := hHn
      clear hHn
      try simp only [List.getElem_toArray, List.getElem_cons_succ, List.getElem_cons_zero, Act.put, List.setIfInBounds_toArray, List.set_cons_zero, List.set_cons_succ]
      have hC := hC'
      clear hC'
      refine wpAnyH_ready (rs := [5]) (by kernel_rfl) (by simp) ?_
      refine AllReadyH.cons rfl (fun K hK => ?_) AllReadyH.nil
      go_simp
      go_at_call 16
      refine (HSA.out _ _ g2 ho2.nd).mono ?_
      rintro e w32 ⟨hy, bs, rfl, hov, hnd, hg, hb3⟩
      clear ho2
      have hC' := hC.trans (hb3.mono hC.size)
      have hgs : w2.heap.size ≤ w31.heap.size := hC.size
      have hlt := fun b hb => (hov.lt b hb).1
      have hvl := row_lt ub
      have hfar : ∀ b ∈ bs, w2.heap.size ≤ b ∧ b ≠ vb := fun b hb => ⟨by have := hg b hb; omega, by have := hg b hb; omega⟩
      have vu0 := (hb3.block _ (row_lt u0)).trans u0
      have vu1 := (hb3.block _ (row_lt u1)).trans u1
      have vub := (hb3.block _ (row_lt ub)).trans ub
      clear u0 u1 ub
      have u0 := vu0
      clear vu0
      have u1 := vu1
      clear vu1
      have ub := vub
      clear vub
      clear hb3 hC
      go_wp2_with fail
      refine hK.out _ _ ⟨u0, u1⟩ (fun hHn => ?_)
      clear hK K hHo
      have hHo := hHn
      clear hHn
      try simp only [List.getElem_toArray, List.getElem_cons_succ, List.getElem_cons_zero, Act.put, List.setIfInBounds_toArray, List.set_cons_zero, List.set_cons_succ]
      have hC := hC'
      clear hC'
      refine wpAnyH_take (i := 6) (v := ?_) rfl (by kernel_rfl) (by kernel_rfl) (by kernel_rfl) (fun _ _ _ h => h) (Or.inl ⟨by rfl, ?_⟩) (by assumption) ?_
      rotate_left
      · intro w hSw
        (try dsimp only at hSw)
        go_simp
        try with_reducible rfl
      try simp only [List.getElem_toArray, List.getElem_cons_succ, List.getElem_cons_zero, Act.put, List.setIfInBounds_toArray, List.set_cons_zero, List.set_cons_succ]
      refine wpAnyH_take (i := 7) (v := ?_) rfl (by kernel_rfl) (by kernel_rfl) (by kernel_rfl) (fun _ _ _ h => h) (Or.inl ⟨by rfl, ?_⟩) (by assumption) ?_
      rotate_left
      · intro w hSw
        (try dsimp only at hSw)
        go_simp
        try with_reducible rfl
      try simp only [List.getElem_toArray, List.getElem_cons_succ, List.getElem_cons_zero, Act.put, List.setIfInBounds_toArray, List.set_cons_zero, List.set_cons_succ]
      refine wpAnyH_take (i := 8) (v := ?_) rfl (by kernel_rfl) (by kernel_rfl) (by kernel_rfl) (fun _ _ _ h => h) (Or.inl ⟨by rfl, ?_⟩) (by assumption) ?_
      rotate_left
      · intro w hSw
        (try dsimp only at hSw)
        go_simp
        try with_reducible rfl
      try simp only [List.getElem_toArray, List.getElem_cons_succ, List.getElem_cons_zero, Act.put, List.setIfInBounds_toArray, List.set_cons_zero, List.set_cons_succ]
      refine wpAnyH_ready (rs := [10]) (by kernel_rfl) (by simp) ?_
      refine AllReadyH.cons rfl (fun K hK => ?_) AllReadyH.nil
      obtain ⟨z0, z1, z2', z3, z4, z5⟩ := cells6 ub
      have zf := row_free ub
      go_simp
      obtain ⟨wf, hwf, hrw, hbf, hkf⟩ := finN (w := w2) (R := w2.heap.size) (.int .i64 y.kind) (.string y.data) (.slice hy.A y.ptrs.length hy.a) (.int .i64 y.size) (.int .i64 y.count) (.slice hy.B y.items.length hy.b) ub hC hvb
      have HWF := Lib.hid hwf
      have HVO : Hid (NodO (m + 1) y w2.heap.size wf vb hy bs) := Lib.hid ⟨hrw, hov.frame (fun b hb => hkf b (hfar b hb).2), hnd, hfar, hvb⟩
      have HBF := Lib.hid hbf
      have x0 := (hbf.block _ (row_lt Y0.out)).trans Y0.out
      have x1 := (hbf.block _ (row_lt Y1.out)).trans Y1.out
      clear hwf z0 z1 z2' z3 z4 z5 zf ub hC hkf hrw hbf hov hfar hnd hg hlt hgs hvb
      rw [HWF.out]
      refine hK.out _ _ ⟨x0, x1⟩ (fun hHn => ?_)
      clear HWF x0 x1
      clear hK K hHo
      have hHo := hHn
      clear hHn
      try simp only [List.getElem_toArray, List.getElem_cons_succ, List.getElem_cons_zero, Act.put, List.setIfInBounds_toArray, List.set_cons_zero, List.set_cons_succ]
      refine wpAnyH_take (i := 11) (v := ?_) rfl (by kernel_rfl) (by kernel_rfl) (by kernel_rfl) (fun _ _ _ h => h) (Or.inl ⟨by rfl, ?_⟩) (by assumption) ?_
      rotate_left
      · intro w hSw
        (try dsimp only at hSw)
        go_simp
        try with_reducible rfl
      try simp only [List.getElem_toArray, List.getElem_cons_succ, List.getElem_cons_zero, Act.put, List.setIfInBounds_toArray, List.set_cons_zero, List.set_cons_succ]
      refine wpAnyH_done (by kernel_rfl) ?_ _
      clear hHo
      go_wp2_with fail
      go_meet
      case rel => exact ⟨vb, hy, bs, rfl, rfl, HVO, HBF⟩
  · go_simp
    have hba : Below w2.heap.size w2.drew ((w2.alloc (.cells #[.int .i64 0, .string { data := #[] }, .slice none 0 0, .int .i64 0, .int .i64 0, .slice none 0 0] nodeT)).drew) := (Below.refl w2.drew.heap.size w2.drew).alloc (Nat.le_refl _) (.cells #[.int .i64 0, .string { data := #[] }, .slice none 0 0, .int .i64 0, .int .i64 0, .slice none 0 0] nodeT)
    have hC' : Below w2.heap.size w2 ((w2.alloc (.cells #[.int .i64 0, .string { data := #[] }, .slice none 0 0, .int .i64 0, .int .i64 0, .slice none 0 0] nodeT)).drew) := hC.trans (hba.mono hC.size)
    have ub : ((w2.alloc (.cells #[.int .i64 0, .string { data := #[] }, .slice none 0 0, .int .i64 0, .int .i64 0, .slice none 0 0] nodeT)).drew).heap[w2.heap.size]? = some (.cells #[.int .i64 0, .string { data := #[] }, .slice none 0 0, .int .i64 0, .int .i64 0, .slice none 0 0] nodeT (0, 0)) := heap_alloc_new w2.drew (.cells #[.int .i64 0, .string { data := #[] }, .slice none 0 0, .int .i64 0, .int .i64 0, .slice none 0 0] nodeT)
    obtain ⟨vb, hvbe⟩ : ∃ vb, vb = w2.heap.size := ⟨_, rfl⟩
    have hvb : w2.heap.size ≤ vb := by rw [hvbe]; exact hC.size
    have vu0 := (hba.block _ (row_lt u0)).trans u0
    have vu1 := (hba.block _ (row_lt u1)).trans u1
    clear u0 u1
    have u0 := vu0
    clear vu0
    have u1 := vu1
    clear vu1
    clear hba hC
    rw [← hvbe] at ub ⊢
    clear hvbe
    generalize ((w2.alloc (.cells #[.int .i64 0, .string { data := #[] }, .slice none 0 0, .int .i64 0, .int .i64 0, .slice none 0 0] nodeT)).drew) = wa at *
    refine hK.out _ _ ⟨u0, u1⟩ (fun hHn => ?_)
    clear hK K hHo
    have hHo := hHn
    clear hHn
    try simp only [List.getElem_toArray, List.getElem_cons_succ, List.getElem_cons_zero, Act.put, List.setIfInBounds_toArray, List.set_cons_zero, List.set_cons_succ]
    have hC := hC'
    clear hC'
    refine wpAnyH_ready (rs := [1]) (by kernel_rfl) (by simp) ?_
    refine AllReadyH.cons rfl (fun K hK => ?_) AllReadyH.nil
    go_simp
    go_at_call 8
    refine (HT.out _).mono ?_
    rintro e w30 ⟨rfl, hb3⟩
    have hC' := hC.trans (hb3.mono hC.size)
    have vu0 := (hb3.block _ (row_lt u0)).trans u0
    have vu1 := (hb3.block _ (row_lt u1)).trans u1
    have vub := (hb3.block _ (row_lt ub)).trans ub
    clear u0 u1 ub
    have u0 := vu0
    clear vu0
    have u1 := vu1
    clear vu1
    have ub := vub
    clear vub
    clear hb3 hC
    go_wp2_with fail
    refine hK.out _ _ ⟨u0, u1⟩ (fun hHn => ?_)
    clear hK K hHo
    have hHo := hHn
    clear hHn
    try simp only [List.getElem_toArray, List.getElem_cons_succ, List.getElem_cons_zero, Act.put, List.setIfInBounds_toArray, List.set_cons_zero, List.set_cons_succ]
    have hC := hC'
    clear hC'
    refine wpAnyH_ready (rs := [3]) (by kernel_rfl) (by simp) ?_
    refine AllReadyH.cons rfl (fun K hK => ?_) AllReadyH.nil
    go_simp
    go_at_call 9
    refine (HTN.out _ (HB2.out.trans (hC.mono HB2.out.size))).mono ?_
    rintro e w31 ⟨g2, bs2, rfl, ho2, -, -, hb3⟩
    have hC' := hC.trans (hb3.mono hC.size)
    have vu0 := (hb3.block _ (row_lt u0)).trans u0
    have vu1 := (hb3.block _ (row_lt u1)).trans u1
    have vub := (hb3.block _ (row_lt ub)).trans ub
    clear u0 u1 ub
    have u0 := vu0
    clear vu0
    have u1 := vu1
    clear vu1
    have ub := vub
    clear vub
    clear hb3 hC
    go_wp2_with fail
    refine hK.out _ _ ⟨u0, u1⟩ (fun hHn => ?_)
    clear hK K hHo
    have hHo := hHn
    clear hHn
    try simp only [List.getElem_toArray, List.getElem_cons_succ, List.getElem_cons_zero, Act.put, List.setIfInBounds_toArray, List.set_cons_zero, List.set_cons_succ]
    have hC := hC'
    clear hC'
    refine wpAnyH_ready (rs := [5]) (by kernel_rfl) (by simp) ?_
    refine AllReadyH.cons rfl (fun K hK => ?_) AllReadyH.nil
    go_simp
    go_at_call 16
    refine (HSA.out _ _ g2 ho2.nd).mono ?_
    rintro e w32 ⟨hy, bs, rfl, hov, hnd, hg, hb3⟩
    clear ho2
    have hC' := hC.trans (hb3.mono hC.size)
    have hgs : w2.heap.size ≤ w31.heap.size := hC.size
    have hlt := fun b hb => (hov.lt b hb).1
    have hvl := row_lt ub
    have hfar : ∀ b ∈ bs, w2.heap.size ≤ b ∧ b ≠ vb := fun b hb => ⟨by have := hg b hb; omega, by have := hg b hb; omega⟩
    have vu0 := (hb3.block _ (row_lt u0)).trans u0
    have vu1 := (hb3.block _ (row_lt u1)).trans u1
    have vub := (hb3.block _ (row_lt ub)).trans ub
    clear u0 u1 ub
    have u0 := vu0
    clear vu0
    have u1 := vu1
    clear vu1
    have ub := vub
    clear vub
    clear hb3 hC
    go_wp2_with fail
    refine hK.out _ _ ⟨u0, u1⟩ (fun hHn => ?_)
    clear hK K hHo
    have hHo := hHn
    clear hHn
    try simp only [List.getElem_toArray, List.getElem_cons_succ, List.getElem_cons_zero, Act.put, List.setIfInBounds_toArray, List.set_cons_zero, List.set_cons_succ]
    have hC := hC'
    clear hC'
    refine wpAnyH_take (i := 6) (v := ?_) rfl (by kernel_rfl) (by kernel_rfl) (by kernel_rfl) (fun _ _ _ h => h) (Or.inl ⟨by rfl, ?_⟩) (by assumption) ?_
    rotate_left
    · intro w hSw
      (try dsimp only at hSw)
      go_simp
      try with_reducible rfl
    try simp only [List.getElem_toArray, List.getElem_cons_succ, List.getElem_cons_zero, Act.put, List.setIfInBounds_toArray, List.set_cons_zero, List.set_cons_succ]
    refine wpAnyH_take (i := 7) (v := ?_) rfl (by kernel_rfl) (by kernel_rfl) (by kernel_rfl) (fun _ _ _ h => h) (Or.inl ⟨by rfl, ?_⟩) (by assumption) ?_
    rotate_left
    · intro w hSw
      (try dsimp only at hSw)
      go_simp
      try with_reducible rfl
    try simp only [List.getElem_toArray, List.getElem_cons_succ, List.getElem_cons_zero, Act.put, List.setIfInBounds_toArray, List.set_cons_zero, List.set_cons_succ]
    refine wpAnyH_take (i := 8) (v := ?_) rfl (by kernel_rfl) (by kernel_rfl) (by kernel_rfl) (fun _ _ _ h => h) (Or.inl ⟨by rfl, ?_⟩) (by assumption) ?_
    rotate_left
    · intro w hSw
      (try dsimp only at hSw)
      go_simp
      try with_reducible rfl
    try simp only [List.getElem_toArray, List.getElem_cons_succ, List.getElem_cons_zero, Act.put, List.setIfInBounds_toArray, List.set_cons_zero, List.set_cons_succ]
    refine wpAnyH_ready (rs := [10]) (by kernel_rfl) (by simp) ?_
    refine AllReadyH.cons rfl (fun K hK => ?_) AllReadyH.nil
    obtain ⟨z0, z1, z2', z3, z4, z5⟩ := cells6 ub
    have zf := row_free ub
    go_simp
    obtain ⟨wf, hwf, hrw, hbf, hkf⟩ := finN (w := w2) (R := w2.heap.size) (.int .i64 y.kind) (.string y.data) (.slice hy.A y.ptrs.length hy.a) (.int .i64 y.size) (.int .i64 y.count) (.slice hy.B y.items.length hy.b) ub hC hvb
    have HWF := Lib.hid hwf
    have HVO : Hid (NodO (m + 1) y w2.heap.size wf vb hy bs) := Lib.hid ⟨hrw, hov.frame (fun b hb => hkf b (hfar b hb).2), hnd, hfar, hvb⟩
    have HBF := Lib.hid hbf
    have x0 := (hbf.block _ (row_lt Y0.out)).trans Y0.out
    have x1 := (hbf.block _ (row_lt Y1.out)).trans Y1.out
    clear hwf z0 z1 z2' z3 z4 z5 zf ub hC hkf hrw hbf hov hfar hnd hg hlt hgs hvb
    rw [HWF.out]
    refine hK.out _ _ ⟨x0, x1⟩ (fun hHn => ?_)
    clear HWF x0 x1
    clear hK K hHo
    have hHo := hHn
    clear hHn
    try simp only [List.getElem_toArray, List.getElem_cons_succ, List.getElem_cons_zero, Act.put, List.setIfInBounds_toArray, List.set_cons_zero, List.set_cons_succ]
    refine wpAnyH_take (i := 11) (v := ?_) rfl (by kernel_rfl) (by kernel_rfl) (by kernel_rfl) (fun _ _ _ h => h) (Or.inl ⟨by rfl, ?_⟩) (by assumption) ?_
    rotate_left
    · intro w hSw
      (try dsimp only at hSw)
      go_simp
      try with_reducible rfl
    try simp only [List.getElem_toArray, List.getElem_cons_succ, List.getElem_cons_zero, Act.put, List.setIfInBounds_toArray, List.set_cons_zero, List.set_cons_succ]
    refine wpAnyH_done (by kernel_rfl) ?_ _
    clear hHo
    go_wp2_with fail
    go_meet
    case rel => exact ⟨vb, hy, bs, rfl, rfl, HVO, HBF⟩
 case rest =>
  obtain ⟨vw, hw, bsw, rfl, rfl, HV, HC⟩ := hcut
  have HBc := Lib.hid (HB2.out.trans (HC.out.mono HB2.out.size))
  have C0 := Lib.hid ((HC.out.block _ (row_lt Y0.out)).trans Y0.out)
  have C1 := Lib.hid ((HC.out.block _ (row_lt Y1.out)).trans Y1.out)
  obtain ⟨n0, n1, n2, n3, n4, n5⟩ := cells6 C1.out
  go_wp2_with fail
  clear n0 n1 n2 n3 n4 n5
  refine (HTN.out _ HBc.out).mono ?_
  rintro e w4 ⟨g3, bs3, rfl, ho3, hd3, hg3, hb4⟩
  have hba : Below w4.heap.size w4 (w4.alloc (.cells #[.int .i64 n.kind, .string n.data, .slice g3.A n.ptrs.length g3.a, .int .i64 n.size, .int .i64 n.count, .slice g3.B n.items.length g3.b] nodeT)) := (Below.refl _ _).alloc (Nat.le_refl _) _
  have hbb : Below wc.heap.size wc (w4.alloc (.cells #[.int .i64 n.kind, .string n.data, .slice g3.A n.ptrs.length g3.a, .int .i64 n.size, .int .i64 n.count, .slice g3.B n.items.length g3.b] nodeT)) := hb4.trans (hba.mono hb4.size)
  have HNO : Hid (NodO m n wc.heap.size (w4.alloc (.cells #[.int .i64 n.kind, .string n.data, .slice g3.A n.ptrs.length g3.a, .int .i64 n.size, .int .i64 n.count, .slice g3.B n.items.length g3.b] nodeT)) w4.heap.size g3 bs3) := Lib.hid ⟨heap_alloc_new w4 (.cells #[.int .i64 n.kind, .string n.data, .slice g3.A n.ptrs.length g3.a, .int .i64 n.size, .int .i64 n.count, .slice g3.B n.items.length g3.b] nodeT), ho3.below hba, hd3, fun b hb => ⟨hg3 b hb, by have := (ho3.lt b hb).1; omega⟩, hb4.size⟩
  have HB4 := Lib.hid (HBc.out.trans (hbb.mono HBc.out.size))
  have A0 := Lib.hid ((hbb.block _ (row_lt C0.out)).trans C0.out)
  have D1 := Lib.hid ((hbb.block _ (row_lt C1.out)).trans C1.out)
  have HV4 := Lib.hid (HV.out.below hbb)
  have hbsz := hbb.size
  clear hba hbb ho3 hd3 hg3 hb4
  go_upto_region 10 with fail
  generalize w4.alloc (.cells #[.int .i64 n.kind, .string n.data, .slice g3.A n.ptrs.length g3.a, .int .i64 n.size, .int .i64 n.count, .slice g3.B n.items.length g3.b] nodeT) = V4 at *
  generalize w4.heap.size = nb at *
  have A1 := Lib.hid HNO.out.row
  have HSZ : Hid (w.heap.size + 1 < wc.heap.size ∧ wc.heap.size ≤ V4.heap.size) := Lib.hid ⟨row_lt C1.out, hbsz⟩
  have HNF : Hid (∀ b ∈ bs3, wc.heap.size ≤ b ∧ b < V4.heap.size) := Lib.hid fun b hb => ⟨(HNO.out.far b hb).1, HNO.out.lt.2 b hb⟩
  have HVF : Hid (vw < wc.heap.size ∧ ∀ b ∈ bsw, b < wc.heap.size) := Lib.hid ⟨HV.out.lt.1, HV.out.lt.2⟩
  clear hbsz
  go_cut [11, 12] (fun s9 s10 wx => ∃ (vb : Nat) (hy : Hd) (bs : List Nat), s9 = .pointer (some ⟨vb, 0, none⟩) ∧ s10 = .bool ok ∧ Hid (NodO (m + 1) y V4.heap.size wx vb hy bs) ∧ Hid (Below V4.heap.size V4 wx))
  case first =>
   have HDR : Hid (Below V4.heap.size V4 V4.drew) := Lib.hid ⟨rfl, rfl, rfl, Nat.le_refl _, fun _ _ => rfl⟩
   refine wp_region_held_drew (S := (fun V => V.heap[w.heap.size]? = some (.cells #[.string nm, .int .i64 k, .int .i64 at_, .int .i64 sz, .int .i64 tu, .int .i64 tg, .int .i64 pl] 23 (0, 0)) ∧ V.heap[nb]? = some (.cells #[.int .i64 n.kind, .string n.data, .slice g3.A n.ptrs.length g3.a, .int .i64 n.size, .int .i64 n.count, .slice g3.B n.items.length g3.b] nodeT (0, 0)))) (by kernel_rfl) ?_ (fun hH0 => ?_)
   · exact ⟨A0.out, A1.out⟩
   have hC := HDR.out
   have hHo := hH0
   clear hH0
   have u0 := A0.out
   have u1 := A1.out
   have hno := HNO.out.below HDR.out
   refine wpAnyH_take (i := 0) (v := .agg #[.string nm, .int .i64 k, .int .i64 at_, .int .i64 sz, .int .i64 tu, .int .i64 tg, .int .i64 pl]) rfl (by kernel_rfl) (by kernel_rfl) (by kernel_rfl) (fun _ _ _ h => h) (Or.inl ⟨by rfl, ?_⟩) (by assumption) ?_
   · intro w hSw
     obtain ⟨s0, s1, s2, s3, s4, s5, s6⟩ := cellsV hSw.1
     obtain ⟨t0, t1, t2, t3, t4, t5⟩ := cells6 hSw.2
     go_simp
   try simp only [List.getElem_toArray, List.getElem_cons_succ, List.getElem_cons_zero, Act.put, List.setIfInBounds_toArray, List.set_cons_zero, List.set_cons_succ]
   refine wpAnyH_take (i := 2) (v := .agg #[.int .i64 n.kind, .string n.data, .slice g3.A n.ptrs.length g3.a, .int .i64 n.size, .int .i64 n.count, .slice g3.B n.items.length g3.b]) rfl (by kernel_rfl) (by kernel_rfl) (by kernel_rfl) (fun _ _ _ h => h) (Or.inl ⟨by rfl, ?_⟩) (by assumption) ?_
   · intro w hSw
     obtain ⟨s0, s1, s2, s3, s4, s5, s6⟩ := cellsV hSw.1
     obtain ⟨t0, t1, t2, t3, t4, t5⟩ := cells6 hSw.2
     go_simp
   try simp only [List.getElem_toArray, List.getElem_cons_succ, List.getElem_cons_zero, Act.put, List.setIfInBounds_toArray, List.set_cons_zero, List.set_cons_succ]
   refine wpAnyH_take (i := 3) (v := ?_) rfl (by kernel_rfl) (by kernel_rfl) (by kernel_rfl) (fun _ _ _ h => h) (Or.inl ⟨by rfl, ?_⟩) (by assumption) ?_
   rotate_left
   · intro w hSw
     (try dsimp only at hSw)
     go_simp
     try with_reducible rfl
   try simp only [List.getElem_toArray, List.getElem_cons_succ, List.getElem_cons_zero, Act.put, List.setIfInBounds_toArray, List.set_cons_zero, List.set_cons_succ]
   refine wpAnyH_ready (rs := [1, 8]) (by kernel_rfl) (by simp) ?_
   refine AllReadyH.cons rfl (fun K hK => ?_) (AllReadyH.cons rfl (fun K hK => ?_) AllReadyH.nil)
   · go_simp
     go_at_call 8
     refine (HT.out _).mono ?_
     rintro e w30 ⟨rfl, hb3⟩
     have hC' := hC.trans (hb3.mono hC.size)
     have vu0 := (hb3.block _ (row_lt u0)).trans u0
     have vu1 := (hb3.block _ (row_lt u1)).trans u1
     have vhno := hno.below hb3
     clear u0 u1 hno
     have u0 := vu0
     clear vu0
     have u1 := vu1
     clear vu1
     have hno := vhno
     clear vhno
     clear hb3 hC
     go_wp2_with fail
     refine hK.out _ _ ⟨u0, u1⟩ (fun hHn => ?_)
     clear hK K hHo
     have hHo := hHn
     clear hHn
     try simp only [List.getElem_toArray, List.getElem_cons_succ, List.getElem_cons_zero, Act.put, List.setIfInBounds_toArray, List.set_cons_zero, List.set_cons_succ]
     have hC := hC'
     clear hC'
     refine wpAnyH_ready (rs := [4, 8]) (by kernel_rfl) (by simp) ?_
     refine AllReadyH.cons rfl (fun K hK => ?_) (AllReadyH.cons rfl (fun K hK => ?_) AllReadyH.nil)
     · go_simp
       go_at_call 17
       refine (HIA.out _ _ g3 hno.own.nd).mono ?_
       rintro e w31 ⟨hy, bs, rfl, hov, hnd, hg, hb3⟩
       clear hno
       have hC' := hC.trans (hb3.mono hC.size)
       have hgs : V4.heap.size ≤ w30.heap.size := hC.size
       have hlt := fun b hb => (hov.lt b hb).1
       have vu0 := (hb3.block _ (row_lt u0)).trans u0
       have vu1 := (hb3.block _ (row_lt u1)).trans u1
       clear u0 u1
       have u0 := vu0
       clear vu0
       have u1 := vu1
       clear vu1
       clear hb3 hC
       go_wp2_with fail
       refine hK.out _ _ ⟨u0, u1⟩ (fun hHn => ?_)
       clear hK K hHo
       have hHo := hHn
       clear hHn
       try simp only [List.getElem_toArray, List.getElem_cons_succ, List.getElem_cons_zero, Act.put, List.setIfInBounds_toArray, List.set_cons_zero, List.set_cons_succ]
       have hC := hC'
       clear hC'
       refine wpAnyH_take (i := 5) (v := ?_) rfl (by kernel_rfl) (by kernel_rfl) (by kernel_rfl) (fun _ _ _ h => h) (Or.inl ⟨by rfl, ?_⟩) (by assumption) ?_
       rotate_left
       · intro w hSw
         (try dsimp only at hSw)
         go_simp
         try with_reducible rfl
       try simp only [List.getElem_toArray, List.getElem_cons_succ, List.getElem_cons_zero, Act.put, List.setIfInBounds_toArray, List.set_cons_zero, List.set_cons_succ]
       refine wpAnyH_take (i := 6) (v := ?_) rfl (by kernel_rfl) (by kernel_rfl) (by kernel_rfl) (fun _ _ _ h => h) (Or.inl ⟨by rfl, ?_⟩) (by assumption) ?_
       rotate_left
       · intro w hSw
         (try dsimp only at hSw)
         go_simp
         try with_reducible rfl
       try simp only [List.getElem_toArray, List.getElem_cons_succ, List.getElem_cons_zero, Act.put, List.setIfInBounds_toArray, List.set_cons_zero, List.set_cons_succ]
       refine wpAnyH_take (i := 7) (v := ?_) rfl (by kernel_rfl) (by kernel_rfl) (by kernel_rfl) (fun _ _ _ h => h) (Or.inl ⟨by rfl, ?_⟩) (by assumption) ?_
       rotate_left
       · intro w hSw
         (try dsimp only at hSw)
         go_simp
         try with_reducible rfl
       try simp only [List.getElem_toArray, List.getElem_cons_succ, List.getElem_cons_zero, Act.put, List.setIfInBounds_toArray, List.set_cons_zero, List.set_cons_succ]
       refine wpAnyH_ready (rs := [8]) (by kernel_rfl) (by simp) ?_
       refine AllReadyH.cons rfl (fun K hK => ?_) AllReadyH.nil
       go_simp
       have hba : Below w31.heap.size w31 ((w31.alloc (.cells #[.int .i64 0, .string { data := #[] }, .slice none 0 0, .int .i64 0, .int .i64 0, .slice none 0 0] nodeT))) := (Below.refl w31.heap.size w31).alloc (Nat.le_refl _) (.cells #[.int .i64 0, .string { data := #[] }, .slice none 0 0, .int .i64 0, .int .i64 0, .slice none 0 0] nodeT)
       have hC' : Below V4.heap.size V4 ((w31.alloc (.cells #[.int .i64 0, .string { data := #[] }, .slice none 0 0, .int .i64 0, .int .i64 0, .slice none 0 0] nodeT))) := hC.trans (hba.mono hC.size)
       have ub : ((w31.alloc (.cells #[.int .i64 0, .string { data := #[] }, .slice none 0 0, .int .i64 0, .int .i64 0, .slice none 0 0] nodeT))).heap[w31.heap.size]? = some (.cells #[.int .i64 0, .string { data := #[] }, .slice none 0 0, .int .i64 0, .int .i64 0, .slice none 0 0] nodeT (0, 0)) := heap_alloc_new w31 (.cells #[.int .i64 0, .string { data := #[] }, .slice none 0 0, .int .i64 0, .int .i64 0, .slice none 0 0] nodeT)
       obtain ⟨vb, hvbe⟩ : ∃ vb, vb = w31.heap.size := ⟨_, rfl⟩
       have hvb : V4.heap.size ≤ vb := by rw [hvbe]; exact hC.size
       have vu0 := (hba.block _ (row_lt u0)).trans u0
       have vu1 := (hba.block _ (row_lt u1)).trans u1
       have vhov := hov.below hba
       clear u0 u1 hov
       have u0 := vu0
       clear vu0
       have u1 := vu1
       clear vu1
       have hov := vhov
       clear vhov
       have hfar : ∀ b ∈ bs, V4.heap.size ≤ b ∧ b ≠ vb := fun b hb => ⟨by have := hg b hb; have := hgs; omega, by have := hlt b hb; omega⟩
       clear hba hC
       rw [← hvbe] at ub ⊢
       clear hvbe
       generalize ((w31.alloc (.cells #[.int .i64 0, .string { data := #[] }, .slice none 0 0, .int .i64 0, .int .i64 0, .slice none 0 0] nodeT))) = wa at *
       refine hK.out _ _ ⟨u0, u1⟩ (fun hHn => ?_)
       clear hK K hHo
       have hHo := hHn
       clear hHn
       try simp only [List.getElem_toArray, List.getElem_cons_succ, List.getElem_cons_zero, Act.put, List.setIfInBounds_toArray, List.set_cons_zero, List.set_cons_succ]
       have hC := hC'
       clear hC'
       refine wpAnyH_ready (rs := [9]) (by kernel_rfl) (by simp) ?_
       refine AllReadyH.cons rfl (fun K hK => ?_) AllReadyH.nil
       obtain ⟨z0, z1, z2', z3, z4, z5⟩ := cells6 ub
       have zf := row_free ub
       go_simp
       obtain ⟨wf, hwf, hrw, hbf, hkf⟩ := finN (w := V4) (R := V4.heap.size) (.int .i64 y.kind) (.string y.data) (.slice hy.A y.ptrs.length hy.a) (.int .i64 y.size) (.int .i64 y.count) (.slice hy.B y.items.length hy.b) ub hC hvb
       have HWF := Lib.hid hwf
       have HVO : Hid (NodO (m + 1) y V4.heap.size wf vb hy bs) := Lib.hid ⟨hrw, hov.frame (fun b hb => hkf b (hfar b hb).2), hnd, hfar, hvb⟩
       have HBF := Lib.hid hbf
       have x0 := (hbf.block _ (row_lt A0.out)).trans A0.out
       have x1 := (hbf.block _ (row_lt A1.out)).trans A1.out
       clear hwf z0 z1 z2' z3 z4 z5 zf ub hC hkf hrw hbf hov hfar hnd hg hlt hgs hvb
       rw [HWF.out]
       refine hK.out _ _ ⟨x0, x1⟩ (fun hHn => ?_)
       clear HWF x0 x1
       clear hK K hHo
       have hHo := hHn
       clear hHn
       try simp only [List.getElem_toArray, List.getElem_cons_succ, List.getElem_cons_zero, Act.put, List.setIfInBounds_toArray, List.set_cons_zero, List.set_cons_succ]
       refine wpAnyH_take (i := 10) (v := ?_) rfl (by kernel_rfl) (by kernel_rfl) (by kernel_rfl) (fun _ _ _ h => h) (Or.inl ⟨by rfl, ?_⟩) (by assumption) ?_
       rotate_left
       · intro w hSw
         (try dsimp only at hSw)
         go_simp
         try with_reducible rfl
       try simp only [List.getElem_toArray, List.getElem_cons_succ, List.getElem_cons_zero, Act.put, List.setIfInBounds_toArray, List.set_cons_zero, List.set_cons_succ]
       refine wpAnyH_done (by kernel_rfl) ?_ _
       clear hHo
       go_wp2_with fail
       go_meet
       case rel => exact ⟨vb, hy, bs, rfl, rfl, HVO, HBF⟩
     · go_simp
       have hba : Below w30.heap.size w30 ((w30.alloc (.cells #[.int .i64 0, .string { data := #[] }, .slice none 0 0, .int .i64 0, .int .i64 0, .slice none 0 0] nodeT))) := (Below.refl w30.heap.size w30).alloc (Nat.le_refl _) (.cells #[.int .i64 0, .string { data := #[] }, .slice none 0 0, .int .i64 0, .int .i64 0, .slice none 0 0] nodeT)
       have hC' : Below V4.heap.size V4 ((w30.alloc (.cells #[.int .i64 0, .string { data := #[] }, .slice none 0 0, .int .i64 0, .int .i64 0, .slice none 0 0] nodeT))) := hC.trans (hba.mono hC.size)
       have ub : ((w30.alloc (.cells #[.int .i64 0, .string { data := #[] }, .slice none 0 0, .int .i64 0, .int .i64 0, .slice none 0 0] nodeT))).heap[w30.heap.size]? = some (.cells #[.int .i64 0, .string { data := #[] }, .slice none 0 0, .int .i64 0, .int .i64 0, .slice none 0 0] nodeT (0, 0)) := heap_alloc_new w30 (.cells #[.int .i64 0, .string { data := #[] }, .slice none 0 0, .int .i64 0, .int .i64 0, .slice none 0 0] nodeT)
       obtain ⟨vb, hvbe⟩ : ∃ vb, vb = w30.heap.size := ⟨_, rfl⟩
       have hvb : V4.heap.size ≤ vb := by rw [hvbe]; exact hC.size
       have vu0 := (hba.block _ (row_lt u0)).trans u0
       have vu1 := (hba.block _ (row_lt u1)).trans u1
       have vhno := hno.below hba
       clear u0 u1 hno
       have u0 := vu0
       clear vu0
       have u1 := vu1
       clear vu1
       have hno := vhno
       clear vhno
       clear hba hC
       rw [← hvbe] at ub ⊢
       clear hvbe
       generalize ((w30.alloc (.cells #[.int .i64 0, .string { data := #[] }, .slice none 0 0, .int .i64 0, .int .i64 0, .slice none 0 0] nodeT))) = wa at *
       refine hK.out _ _ ⟨u0, u1⟩ (fun hHn => ?_)
       clear hK K hHo
       have hHo := hHn
       clear hHn
       try simp only [List.getElem_toArray, List.getElem_cons_succ, List.getElem_cons_zero, Act.put, List.setIfInBounds_toArray, List.set_cons_zero, List.set_cons_succ]
       have hC := hC'
       clear hC'
       refine wpAnyH_ready (rs := [4]) (by kernel_rfl) (by simp) ?_
       refine AllReadyH.cons rfl (fun K hK => ?_) AllReadyH.nil
       go_simp
       go_at_call 17
       refine (HIA.out _ _ g3 hno.own.nd).mono ?_
       rintro e w31 ⟨hy, bs, rfl, hov, hnd, hg, hb3⟩
       clear hno
       have hC' := hC.trans (hb3.mono hC.size)
       have hgs : V4.heap.size ≤ wa.heap.size := hC.size
       have hlt := fun b hb => (hov.lt b hb).1
       have hvl := row_lt ub
       have hfar : ∀ b ∈ bs, V4.heap.size ≤ b ∧ b ≠ vb := fun b hb => ⟨by have := hg b hb; omega, by have := hg b hb; omega⟩
       have vu0 := (hb3.block _ (row_lt u0)).trans u0
       have vu1 := (hb3.block _ (row_lt u1)).trans u1
       have vub := (hb3.block _ (row_lt ub)).trans ub
       clear u0 u1 ub
       have u0 := vu0
       clear vu0
       have u1 := vu1
       clear vu1
       have ub := vub
       clear vub
       clear hb3 hC
       go_wp2_with fail
       refine hK.out _ _ ⟨u0, u1⟩ (fun hHn => ?_)
       clear hK K hHo
       have hHo := hHn
       clear hHn
       try simp only [List.getElem_toArray, List.getElem_cons_succ, List.getElem_cons_zero, Act.put, List.setIfInBounds_toArray, List.set_cons_zero, List.set_cons_succ]
       have hC := hC'
       clear hC'
       refine wpAnyH_take (i := 5) (v := ?_) rfl (by kernel_rfl) (by kernel_rfl) (by kernel_rfl) (fun _ _ _ h => h) (Or.inl ⟨by rfl, ?_⟩) (by assumption) ?_
       rotate_left
       · intro w hSw
         (try dsimp only at hSw)
         go_simp
         try with_reducible rfl
       try simp only [List.getElem_toArray, List.getElem_cons_succ, List.getElem_cons_zero, Act.put, List.setIfInBounds_toArray, List.set_cons_zero, List.set_cons_succ]
       refine wpAnyH_take (i := 6) (v := ?_) rfl (by kernel_rfl) (by kernel_rfl) (by kernel_rfl) (fun _ _ _ h => h) (Or.inl ⟨by rfl, ?_⟩) (by assumption) ?_
       rotate_left
       · intro w hSw
         (try dsimp only at hSw)
         go_simp
         try with_reducible rfl
       try simp only [List.getElem_toArray, List.getElem_cons_succ, List.getElem_cons_zero, Act.put, List.setIfInBounds_toArray, List.set_cons_zero, List.set_cons_succ]
       refine wpAnyH_take (i := 7) (v := ?_) rfl (by kernel_rfl) (by kernel_rfl) (by kernel_rfl) (fun _ _ _ h => h) (Or.inl ⟨by rfl, ?_⟩) (by assumption) ?_
       rotate_left
       · intro w hSw
         (try dsimp only at hSw)
         go_simp
         try with_reducible rfl
       try simp only [List.getElem_toArray, List.getElem_cons_succ, List.getElem_cons_zero, Act.put, List.setIfInBounds_toArray, List.set_cons_zero, List.set_cons_succ]
       refine wpAnyH_ready (rs := [9]) (by kernel_rfl) (by simp) ?_
       refine AllReadyH.cons rfl (fun K hK => ?_) AllReadyH.nil
       obtain ⟨z0, z1, z2', z3, z4, z5⟩ := cells6 ub
       have zf := row_free ub
       go_simp
       obtain ⟨wf, hwf, hrw, hbf, hkf⟩ := finN (w := V4) (R := V4.heap.size) (.int .i64 y.kind) (.string y.data) (.slice hy.A y.ptrs.length hy.a) (.int .i64 y.size) (.int .i64 y.count) (.slice hy.B y.items.length hy.b) ub hC hvb
       have HWF := Lib.hid hwf
       have HVO : Hid (NodO (m + 1) y V4.heap.size wf vb hy bs) := Lib.hid ⟨hrw, hov.frame (fun b hb => hkf b (hfar b hb).2), hnd, hfar, hvb⟩
       have HBF := Lib.hid hbf
       have x0 := (hbf.block _ (row_lt A0.out)).trans A0.out
       have x1 := (hbf.block _ (row_lt A1.out)).trans A1.out
       clear hwf z0 z1 z2' z3 z4 z5 zf ub hC hkf hrw hbf hov hfar hnd hg hlt hgs hvb
       rw [HWF.out]
       refine hK.out _ _ ⟨x0, x1⟩ (fun hHn => ?_)
       clear HWF x0 x1
       clear hK K hHo
       have hHo := hHn
       clear hHn
       try simp only [List.getElem_toArray, List.getElem_cons_succ, List.getElem_cons_zero, Act.put, List.setIfInBounds_toArray, List.set_cons_zero, List.set_cons_succ]
       refine wpAnyH_take (i := 10) (v := ?_) rfl (by kernel_rfl) (by kernel_rfl) (by kernel_rfl) (fun _ _ _ h => h) (Or.inl ⟨by rfl, ?_⟩) (by assumption) ?_
       rotate_left
       · intro w hSw
         (try dsimp only at hSw)
         go_simp
         try with_reducible rfl
       try simp only [List.getElem_toArray, List.getElem_cons_succ, List.getElem_cons_zero, Act.put, List.setIfInBounds_toArray, List.set_cons_zero, List.set_cons_succ]
       refine wpAnyH_done (by kernel_rfl) ?_ _
       clear hHo
       go_wp2_with fail
       go_meet
       case rel => exact ⟨vb, hy, bs, rfl, rfl, HVO, HBF⟩
   · go_simp
     have hba : Below V4.heap.size V4.drew ((V4.alloc (.cells #[.int .i64 0, .string { data := #[] }, .slice none 0 0, .int .i64 0, .int .i64 0, .slice none 0 0] nodeT)).drew) := (Below.refl V4.drew.heap.size V4.drew).alloc (Nat.le_refl _) (.cells #[.int .i64 0, .string { data := #[] }, .slice none 0 0, .int .i64 0, .int .i64 0, .slice none 0 0] nodeT)
     have hC' : Below V4.heap.size V4 ((V4.alloc (.cells #[.int .i64 0, .string { data := #[] }, .slice none 0 0, .int .i64 0, .int .i64 0, .slice none 0 0] nodeT)).drew) := hC.trans (hba.mono hC.size)
     have ub : ((V4.alloc (.cells #[.int .i64 0, .string { data := #[] }, .slice none 0 0, .int .i64 0, .int .i64 0, .slice none 0 0] nodeT)).drew).heap[V4.heap.size]? = some (.cells #[.int .i64 0, .string { data := #[] }, .slice none 0 0, .int .i64 0, .int .i64 0, .slice none 0 0] nodeT (0, 0)) := heap_alloc_new V4.drew (.cells #[.int .i64 0, .string { data := #[] }, .slice none 0 0, .int .i64 0, .int .i64 0, .slice none 0 0] nodeT)
     obtain ⟨vb, hvbe⟩ : ∃ vb, vb = V4.heap.size := ⟨_, rfl⟩
     have hvb : V4.heap.size ≤ vb := by rw [hvbe]; exact hC.size
     have vu0 := (hba.block _ (row_lt u0)).trans u0
     have vu1 := (hba.block _ (row_lt u1)).trans u1
     have vhno := hno.below hba
     clear u0 u1 hno
     have u0 := vu0
     clear vu0
     have u1 := vu1
     clear vu1
     have hno := vhno
     clear vhno
     clear hba hC
     rw [← hvbe] at ub ⊢
     clear hvbe
     generalize ((V4.alloc (.cells #[.int .i64 0, .string { data := #[] }, .slice none 0 0, .int .i64 0, .int .i64 0, .slice none 0 0] nodeT)).drew) = wa at *
     refine hK.out _ _ ⟨u0, u1⟩ (fun hHn => ?_)
     clear hK K hHo
     have hHo := hHn
     clear hHn
     try simp only [List.getElem_toArray, List.getElem_cons_succ, List.getElem_cons_zero, Act.put, List.setIfInBounds_toArray, List.set_cons_zero, List.set_cons_succ]
     have hC := hC'
     clear hC'
     refine wpAnyH_ready (rs := [1]) (by kernel_rfl) (by simp) ?_
     refine AllReadyH.cons rfl (fun K hK => ?_) AllReadyH.nil
     go_simp
     go_at_call 8
     refine (HT.out _).mono ?_
     rintro e w30 ⟨rfl, hb3⟩
     have hC' := hC.trans (hb3.mono hC.size)
     have vu0 := (hb3.block _ (row_lt u0)).trans u0
     have vu1 := (hb3.block _ (row_lt u1)).trans u1
     have vhno := hno.below hb3
     have vub := (hb3.block _ (row_lt ub)).trans ub
     clear u0 u1 hno ub
     have u0 := vu0
     clear vu0
     have u1 := vu1
     clear vu1
     have hno := vhno
     clear vhno
     have ub := vub
     clear vub
     clear hb3 hC
     go_wp2_with fail
     refine hK.out _ _ ⟨u0, u1⟩ (fun hHn => ?_)
     clear hK K hHo
     have hHo := hHn
     clear hHn
     try simp only [List.getElem_toArray, List.getElem_cons_succ, List.getElem_cons_zero, Act.put, List.setIfInBounds_toArray, List.set_cons_zero, List.set_cons_succ]
     have hC := hC'
     clear hC'
     refine wpAnyH_ready (rs := [4]) (by kernel_rfl) (by simp) ?_
     refine AllReadyH.cons rfl (fun K hK => ?_) AllReadyH.nil
     go_simp
     go_at_call 17
     refine (HIA.out _ _ g3 hno.own.nd).mono ?_
     rintro e w31 ⟨hy, bs, rfl, hov, hnd, hg, hb3⟩
     clear hno
     have hC' := hC.trans (hb3.mono hC.size)
     have hgs : V4.heap.size ≤ w30.heap.size := hC.size
     have hlt := fun b hb => (hov.lt b hb).1
     have hvl := row_lt ub
     have hfar : ∀ b ∈ bs, V4.heap.size ≤ b ∧ b ≠ vb := fun b hb => ⟨by have := hg b hb; omega, by have := hg b hb; omega⟩
     have vu0 := (hb3.block _ (row_lt u0)).trans u0
     have vu1 := (hb3.block _ (row_lt u1)).trans u1
     have vub := (hb3.block _ (row_lt ub)).trans ub
     clear u0 u1 ub
     have u0 := vu0
     clear vu0
     have u1 := vu1
     clear vu1
     have ub := vub
     clear vub
     clear hb3 hC
     go_wp2_with fail
     refine hK.out _ _ ⟨u0, u1⟩ (fun hHn => ?_)
     clear hK K hHo
     have hHo := hHn
     clear hHn
     try simp only [List.getElem_toArray, List.getElem_cons_succ, List.getElem_cons_zero, Act.put, List.setIfInBounds_toArray, List.set_cons_zero, List.set_cons_succ]
     have hC := hC'
     clear hC'
     refine wpAnyH_take (i := 5) (v := ?_) rfl (by kernel_rfl) (by kernel_rfl) (by kernel_rfl) (fun _ _ _ h => h) (Or.inl ⟨by rfl, ?_⟩) (by assumption) ?_
     rotate_left
     · intro w hSw
       (try dsimp only at hSw)
       go_simp
       try with_reducible rfl
     try simp only [List.getElem_toArray, List.getElem_cons_succ, List.getElem_cons_zero, Act.put, List.setIfInBounds_toArray, List.set_cons_zero, List.set_cons_succ]
     refine wpAnyH_take (i := 6) (v := ?_) rfl (by kernel_rfl) (by kernel_rfl) (by kernel_rfl) (fun _ _ _ h => h) (Or.inl ⟨by rfl, ?_⟩) (by assumption) ?_
     rotate_left
     · intro w hSw
       (try dsimp only at hSw)
       go_simp
       try with_reducible rfl
     try simp only [List.getElem_toArray, List.getElem_cons_succ, List.getElem_cons_zero, Act.put, List.setIfInBounds_toArray, List.set_cons_zero, List.set_cons_succ]
     refine wpAnyH_take (i := 7) (v := ?_) rfl (by kernel_rfl) (by kernel_rfl) (by kernel_rfl) (fun _ _ _ h => h) (Or.inl ⟨by rfl, ?_⟩) (by assumption) ?_
     rotate_left
     · intro w hSw
       (try dsimp only at hSw)
       go_simp
       try with_reducible rfl
     try simp only [List.getElem_toArray, List.getElem_cons_succ, List.getElem_cons_zero, Act.put, List.setIfInBounds_toArray, List.set_cons_zero, List.set_cons_succ]
     refine wpAnyH_ready (rs := [9]) (by kernel_rfl) (by simp) ?_
     refine AllReadyH.cons rfl (fun K hK => ?_) AllReadyH.nil
     obtain ⟨z0, z1, z2', z3, z4, z5⟩ := cells6 ub
     have zf := row_free ub
     go_simp
     obtain ⟨wf, hwf, hrw, hbf, hkf⟩ := finN (w := V4) (R := V4.heap.size) (.int .i64 y.kind) (.string y.data) (.slice hy.A y.ptrs.length hy.a) (.int .i64 y.size) (.int .i64 y.count) (.slice hy.B y.items.length hy.b) ub hC hvb
     have HWF := Lib.hid hwf
     have HVO : Hid (NodO (m + 1) y V4.heap.size wf vb hy bs) := Lib.hid ⟨hrw, hov.frame (fun b hb => hkf b (hfar b hb).2), hnd, hfar, hvb⟩
     have HBF := Lib.hid hbf
     have x0 := (hbf.block _ (row_lt A0.out)).trans A0.out
     have x1 := (hbf.block _ (row_lt A1.out)).trans A1.out
     clear hwf z0 z1 z2' z3 z4 z5 zf ub hC hkf hrw hbf hov hfar hnd hg hlt hgs hvb
     rw [HWF.out]
     refine hK.out _ _ ⟨x0, x1⟩ (fun hHn => ?_)
     clear HWF x0 x1
     clear hK K hHo
     have hHo := hHn
     clear hHn
     try simp only [List.getElem_toArray, List.getElem_cons_succ, List.getElem_cons_zero, Act.put, List.setIfInBounds_toArray, List.set_cons_zero, List.set_cons_succ]
     refine wpAnyH_take (i := 10) (v := ?_) rfl (by kernel_rfl) (by kernel_rfl) (by kernel_rfl) (fun _ _ _ h => h) (Or.inl ⟨by rfl, ?_⟩) (by assumption) ?_
     rotate_left
     · intro w hSw
       (try dsimp only at hSw)
       go_simp
       try with_reducible rfl
     try simp only [List.getElem_toArray, List.getElem_cons_succ, List.getElem_cons_zero, Act.put, List.setIfInBounds_toArray, List.set_cons_zero, List.set_cons_succ]
     refine wpAnyH_done (by kernel_rfl) ?_ _
     clear hHo
     go_wp2_with fail
     go_meet
     case rel => exact ⟨vb, hy, bs, rfl, rfl, HVO, HBF⟩
  case rest =>
   obtain ⟨vg, hg, bsg, rfl, rfl, HG, HC5⟩ := hcut
   have hd : (ok != ok) = false := by simp
   have HB5 := Lib.hid (HB4.out.trans (HC5.out.mono HB4.out.size))
   have C0' := Lib.hid ((HC5.out.block _ (row_lt A0.out)).trans A0.out)
   have C1' := Lib.hid ((HC5.out.block _ (row_lt D1.out)).trans D1.out)
   have HV5 := Lib.hid (HV4.out.below HC5.out)
   have HN5 := Lib.hid (HNO.out.below HC5.out)
   obtain ⟨v0, v1, v2, v3, v4, v5⟩ := cells6 HV5.out.row
   obtain ⟨y0, y1, y2, y3, y4, y5⟩ := cells6 HG.out.row
   have HQ := Lib.hid (HEV.out _ _ _ hg hw HG.out.own.nd HV5.out.own.nd)
   go_wp2_with fail
   refine HQ.out.mono ?_
   rintro e w6 ⟨rfl, hb6⟩
   clear v0 v1 v2 v3 v4 v5 y0 y1 y2 y3 y4 y5 HQ
   have HB6 := Lib.hid (HB5.out.trans (hb6.mono HB5.out.size))
   have D0 := Lib.hid ((hb6.block _ (row_lt C0'.out)).trans C0'.out)
   have D1' := Lib.hid ((hb6.block _ (row_lt C1'.out)).trans C1'.out)
   have HV6 := Lib.hid (HV5.out.below hb6)
   have HN6 := Lib.hid (HN5.out.below hb6)
   have HG6 := Lib.hid (HG.out.below hb6)
   have N6 := Lib.hid HN6.out.row
   clear hb6
   go_wp2_with fail
   have HDR : Hid (Below w6.heap.size w6 w6.drew) := Lib.hid ⟨rfl, rfl, rfl, Nat.le_refl _, fun _ _ => rfl⟩
   refine wp_region_held_drew (S := (fun V => V.heap[nb]? = some (.cells #[.int .i64 n.kind, .string n.data, .slice g3.A n.ptrs.length g3.a, .int .i64 n.size, .int .i64 n.count, .slice g3.B n.items.length g3.b] nodeT (0, 0)) ∧ V.heap[w.heap.size + 1]? = some (.cells #[.int .i64 n.kind, .string n.data, .slice h.A n.ptrs.length h.a, .int .i64 n.size, .int .i64 n.count, .slice h.B n.items.length h.b] 26 (0, 0)))) (by kernel_rfl) ?_ (fun hH0 => ?_)
   · exact ⟨N6.out, D1'.out⟩
   have hC := HDR.out
   have hHo := hH0
   clear hH0
   have u0 := N6.out
   have u1 := D1'.out
   refine wpAnyH_take (i := 0) (v := .agg #[.int .i64 n.kind, .string n.data, .slice g3.A n.ptrs.length g3.a, .int .i64 n.size, .int .i64 n.count, .slice g3.B n.items.length g3.b]) rfl (by kernel_rfl) (by kernel_rfl) (by kernel_rfl) (fun _ _ _ h => h) (Or.inl ⟨by rfl, ?_⟩) (by assumption) ?_
   · intro w hSw
     obtain ⟨s0, s1, s2, s3, s4, s5⟩ := cells6 hSw.1
     obtain ⟨t0, t1, t2, t3, t4, t5⟩ := cells6 hSw.2
     go_simp
   try simp only [List.getElem_toArray, List.getElem_cons_succ, List.getElem_cons_zero, Act.put, List.setIfInBounds_toArray, List.set_cons_zero, List.set_cons_succ]
   refine wpAnyH_take (i := 1) (v := .agg #[.int .i64 n.kind, .string n.data, .slice h.A n.ptrs.length h.a, .int .i64 n.size, .int .i64 n.count, .slice h.B n.items.length h.b]) rfl (by kernel_rfl) (by kernel_rfl) (by kernel_rfl) (fun _ _ _ h => h) (Or.inl ⟨by rfl, ?_⟩) (by assumption) ?_
   · intro w hSw
     obtain ⟨s0, s1, s2, s3, s4, s5⟩ := cells6 hSw.1
     obtain ⟨t0, t1, t2, t3, t4, t5⟩ := cells6 hSw.2
     go_simp
   try simp only [List.getElem_toArray, List.getElem_cons_succ, List.getElem_cons_zero, Act.put, List.setIfInBounds_toArray, List.set_cons_zero, List.set_cons_succ]
   refine wpAnyH_ready (rs := [2]) (by kernel_rfl) (by simp) ?_
   refine AllReadyH.cons rfl (fun K hK => ?_) AllReadyH.nil
   go_simp
   go_at_call 9
   refine (HTN.out _ (HB6.out.trans (hC.mono HB6.out.size))).mono ?_
   rintro e w7 ⟨g2, bs2, rfl, ho2, -, -, hb3⟩
   have hn7 := HN6.out.below (hC.trans (hb3.mono hC.size))
   have hC' := hC.trans (hb3.mono hC.size)
   have v0 := (hb3.block _ (row_lt u0)).trans u0
   have v1 := (hb3.block _ (row_lt u1)).trans u1
   clear hC u0 u1
   go_wp2_with fail
   refine hK.out _ _ ⟨v0, v1⟩ (fun hHn => ?_)
   clear hK K hHo
   have hHo := hHn
   clear hHn
   have u0 := v0
   have u1 := v1
   have hC := hC'
   clear v0 v1 hC'
   try simp only [List.getElem_toArray, List.getElem_cons_succ, List.getElem_cons_zero, Act.put, List.setIfInBounds_toArray, List.set_cons_zero, List.set_cons_succ]
   clear hb3
   refine wpAnyH_ready (rs := [3]) (by kernel_rfl) (by simp) ?_
   refine AllReadyH.cons rfl (fun K hK => ?_) AllReadyH.nil
   go_simp
   go_at_call 12
   refine (HEN.out _ _ _ g3 g2 hn7.own.nd ho2.nd).mono ?_
   rintro e w8 ⟨rfl, hb3⟩
   have hC' := hC.trans (hb3.mono hC.size)
   have v0 := (hb3.block _ (row_lt u0)).trans u0
   have v1 := (hb3.block _ (row_lt u1)).trans u1
   clear hC u0 u1
   go_wp2_with fail
   refine hK.out _ _ ⟨v0, v1⟩ (fun hHn => ?_)
   clear hK K hHo
   have hHo := hHn
   clear hHn
   have u0 := v0
   have u1 := v1
   have hC := hC'
   clear v0 v1 hC'
   try simp only [List.getElem_toArray, List.getElem_cons_succ, List.getElem_cons_zero, Act.put, List.setIfInBounds_toArray, List.set_cons_zero, List.set_cons_succ]
   clear hb3 hn7 ho2
   refine wpAnyH_take (i := 4) (v := ?_) rfl (by kernel_rfl) (by kernel_rfl) (by kernel_rfl) (fun _ _ _ h => h) (Or.inl ⟨by rfl, ?_⟩) (by assumption) ?_
   rotate_left
   · intro w hSw
     (try dsimp only at hSw)
     go_simp
     try with_reducible rfl
   try simp only [List.getElem_toArray, List.getElem_cons_succ, List.getElem_cons_zero, Act.put, List.setIfInBounds_toArray, List.set_cons_zero, List.set_cons_succ]
   refine wpAnyH_done (by kernel_rfl) ?_ _
   clear hHo u0 u1
   have HB8 := Lib.hid (HB6.out.trans (hC.mono HB6.out.size))
   have F0 := Lib.hid ((hC.block _ (row_lt D0.out)).trans D0.out)
   have F1 := Lib.hid ((hC.block _ (row_lt D1'.out)).trans D1'.out)
   have HV8 := Lib.hid (HV6.out.below hC)
   have HN8 := Lib.hid (HN6.out.below hC)
   have HG8 := Lib.hid (HG6.out.below hC)
   clear hC
   obtain ⟨n0, n1, n2, n3, n4, n5⟩ := cells6 HN8.out.row
   have HQ := Lib.hid (HMN.out g3 bs3 w8 HN8.out.own HN8.out.nodup)
   go_wp2_with fail
   refine HQ.out.mono ?_
   rintro e w9 ⟨p5, i5, k1, k2, rfl, hk2, -, -, -, -, -, hoi⟩
   clear n0 n1 n2 n3 n4 n5 HQ
   have hk0 : ¬ ((k2 : Int) < 0) := by omega
   have hsz := HSZ.out
   have hkp : ∀ b, b < w8.heap.size → b ∉ bs3 → w9.heap[b]? = w8.heap[b]? := fun b h1 h2 => hoi.block b h1 h2
   have h3f := HNF.out
   have HB9 := Lib.hid (HB8.out.trans (hoi.below (B := w.heap.size) HB8.out.size (fun b hb => by have := h3f b hb; omega)))
   have G0 := Lib.hid ((hkp _ (row_lt F0.out) (fun hm => by have := h3f _ hm; omega)).trans F0.out)
   have G1 := Lib.hid ((hkp _ (row_lt F1.out) (fun hm => by have := h3f _ hm; omega)).trans F1.out)
   have HV9 := Lib.hid (HV8.out.frame (w' := w9) (hkp _ HV8.out.lt.1 (fun hm => by have := h3f _ hm; have := HVF.out.1; omega)) (fun b hb => hkp b (HV8.out.lt.2 b hb) (fun hm => by have := h3f _ hm; have := HVF.out.2 b hb; omega)))
   have HG9 := Lib.hid (HG8.out.frame (w' := w9) (hkp _ HG8.out.lt.1 (fun hm => by have := h3f _ hm; have := HG8.out.base; omega)) (fun b hb => hkp b (HG8.out.lt.2 b hb) (fun hm => by have := h3f _ hm; have := (HG8.out.far b hb).1; omega)))
   clear hoi hkp hsz h3f
   obtain ⟨v0, v1, v2, v3, v4, v5⟩ := cells6 HV9.out.row
   obtain ⟨y0, y1, y2, y3, y4, y5⟩ := cells6 HG9.out.row
   have HQ := Lib.hid (HEV.out _ _ _ hg hw HG9.out.own.nd HV9.out.own.nd)
   go_wp2_with fail
   refine HQ.out.mono ?_
   rintro e w10 ⟨rfl, hb10⟩
   clear v0 v1 v2 v3 v4 v5 y0 y1 y2 y3 y4 y5 HQ hk0 hk2
   have HB10 := Lib.hid (HB9.out.trans (hb10.mono HB9.out.size))
   have H0 := Lib.hid ((hb10.block _ (row_lt G0.out)).trans G0.out)
   have H1 := Lib.hid ((hb10.block _ (row_lt G1.out)).trans G1.out)
   have HV10 := Lib.hid (HV9.out.below hb10)
   have HG10 := Lib.hid (HG9.out.below hb10)
   clear hb10
   obtain ⟨y0, y1, y2, y3, y4, y5⟩ := cells6 HG10.out.row
   have HQ := Lib.hid (HMV.out hg bsg w10 HG10.out.own HG10.out.nodup)
   go_wp2_with fail
   refine HQ.out.mono ?_
   rintro e w11 ⟨pg, ig, m1, m2, rfl, hm2, hpl, hil, hom, hh1, hh2, hoi⟩
   clear y0 y1 y2 y3 y4 y5 HQ
   have hm0 : ¬ ((m2 : Int) < 0) := by omega
   have hmm : ((m2 : Int) != (m2 : Int)) = false := by simp
   have hsz := HSZ.out
   have hgf := HG10.out.far
   have hgb := HG10.out.base
   have hkp : ∀ b, b < w10.heap.size → b ∉ bsg → w11.heap[b]? = w10.heap[b]? := fun b h1 h2 => hoi.block b h1 h2
   have HB11 := Lib.hid (HB10.out.trans (hoi.below (B := w.heap.size) HB10.out.size (fun b hb => by have := hgf b hb; omega)))
   have J0 := Lib.hid ((hkp _ (row_lt H0.out) (fun hm => by have := hgf _ hm; omega)).trans H0.out)
   have J1 := Lib.hid ((hkp _ (row_lt H1.out) (fun hm => by have := hgf _ hm; omega)).trans H1.out)
   have HV11 := Lib.hid (HV10.out.frame (w' := w11) (hkp _ HV10.out.lt.1 (fun hm => by have := hgf _ hm; have := HVF.out.1; omega)) (fun b hb => hkp b (HV10.out.lt.2 b hb) (fun hm => by have := hgf _ hm; have := HVF.out.2 b hb; omega)))
   have HGR := Lib.hid ((hkp _ HG10.out.lt.1 (fun hm => (hgf _ hm).2 rfl)).trans HG10.out.row)
   have HHE : Hid (∀ V : World, Below w11.heap.size w11 V → Calls Try.prog 18 #[.agg #[.int .i64 y.kind, .string y.data, .slice hg.A y.ptrs.length hg.a, .int .i64 y.size, .int .i64 y.count, .slice hg.B y.items.length hg.b], .int .i64 1] V fun e w' => e = .returned (.int .i64 (m2 : Int)) ∧ Below V.heap.size V w') := Lib.hid fun V hV => by
    have hq := HHV.out hg bsg V _ m1 m2 pg ig (hom.nd.below hV) hh1 hh2 hm2
    have e1 : (Nd.mk y.kind y.data pg y.size y.count ig).ptrs.length = y.ptrs.length := hpl
    have e2 : (Nd.mk y.kind y.data pg y.size y.count ig).items.length = y.items.length := hil
    rw [e1, e2] at hq
    exact hq
   clear hoi hkp hsz hgf hgb hom hh1 hh2 hpl hil hm2
   obtain ⟨y0, y1, y2, y3, y4, y5⟩ := cells6 HGR.out
   go_wp2_with fail
   refine (HHE.out _ (Below.refl _ _)).mono ?_
   rintro e w9 ⟨rfl, hb9⟩
   clear y0 y1 y2 y3 y4 y5
   have HK9 := Lib.hid hb9
   have HBF9 := Lib.hid (HB11.out.trans (hb9.mono HB11.out.size))
   have E0 := Lib.hid ((hb9.block _ (row_lt J0.out)).trans J0.out)
   have E1 := Lib.hid ((hb9.block _ (row_lt J1.out)).trans J1.out)
   have HVE := Lib.hid (HV11.out.below hb9)
   have HGE := Lib.hid ((hb9.block _ (row_lt HGR.out)).trans HGR.out)
   clear hb9
   go_upto_region 27 with fail
   go_cut [16, 17] (fun s14 s15 wx => ∃ (vb : Nat) (hy : Hd) (bs : List Nat), s14 = .pointer (some ⟨vb, 0, none⟩) ∧ s15 = .bool ok ∧ Hid (NodO (m + 1) y w9.heap.size wx vb hy bs) ∧ Hid (Below w9.heap.size w9 wx))
   case first =>
    have HDR : Hid (Below w9.heap.size w9 w9.drew) := Lib.hid ⟨rfl, rfl, rfl, Nat.le_refl _, fun _ _ => rfl⟩
    refine wp_region_held_drew (S := (fun V => V.heap[w.heap.size]? = some (.cells #[.string nm, .int .i64 k, .int .i64 at_, .int .i64 sz, .int .i64 tu, .int .i64 tg, .int .i64 pl] 23 (0, 0)) ∧ V.heap[w.heap.size + 1]? = some (.cells #[.int .i64 n.kind, .string n.data, .slice h.A n.ptrs.length h.a, .int .i64 n.size, .int .i64 n.count, .slice h.B n.items.length h.b] 26 (0, 0)))) (by kernel_rfl) ?_ (fun hH0 => ?_)
    · exact ⟨E0.out, E1.out⟩
    have hC := HDR.out
    have hHo := hH0
    clear hH0
    have u0 := E0.out
    have u1 := E1.out
    refine wpAnyH_take (i := 0) (v := .agg #[.string nm, .int .i64 k, .int .i64 at_, .int .i64 sz, .int .i64 tu, .int .i64 tg, .int .i64 pl]) rfl (by kernel_rfl) (by kernel_rfl) (by kernel_rfl) (fun _ _ _ h => h) (Or.inl ⟨by rfl, ?_⟩) (by assumption) ?_
    · intro w hSw
      obtain ⟨s0, s1, s2, s3, s4, s5, s6⟩ := cellsV hSw.1
      obtain ⟨t0, t1, t2, t3, t4, t5⟩ := cells6 hSw.2
      go_simp
    try simp only [List.getElem_toArray, List.getElem_cons_succ, List.getElem_cons_zero, Act.put, List.setIfInBounds_toArray, List.set_cons_zero, List.set_cons_succ]
    refine wpAnyH_take (i := 2) (v := .agg #[.int .i64 n.kind, .string n.data, .slice h.A n.ptrs.length h.a, .int .i64 n.size, .int .i64 n.count, .slice h.B n.items.length h.b]) rfl (by kernel_rfl) (by kernel_rfl) (by kernel_rfl) (fun _ _ _ h => h) (Or.inl ⟨by rfl, ?_⟩) (by assumption) ?_
    · intro w hSw
      obtain ⟨s0, s1, s2, s3, s4, s5, s6⟩ := cellsV hSw.1
      obtain ⟨t0, t1, t2, t3, t4, t5⟩ := cells6 hSw.2
      go_simp
    try simp only [List.getElem_toArray, List.getElem_cons_succ, List.getElem_cons_zero, Act.put, List.setIfInBounds_toArray, List.set_cons_zero, List.set_cons_succ]
    refine wpAnyH_take (i := 4) (v := ?_) rfl (by kernel_rfl) (by kernel_rfl) (by kernel_rfl) (fun _ _ _ h => h) (Or.inl ⟨by rfl, ?_⟩) (by assumption) ?_
    rotate_left
    · intro w hSw
      (try dsimp only at hSw)
      go_simp
      try with_reducible rfl
    try simp only [List.getElem_toArray, List.getElem_cons_succ, List.getElem_cons_zero, Act.put, List.setIfInBounds_toArray, List.set_cons_zero, List.set_cons_succ]
    refine wpAnyH_ready (rs := [1, 9]) (by kernel_rfl) (by simp) ?_
    refine AllReadyH.cons rfl (fun K hK => ?_) (AllReadyH.cons rfl (fun K hK => ?_) AllReadyH.nil)
    · go_simp
      go_at_call 8
      refine (HT.out _).mono ?_
      rintro e w30 ⟨rfl, hb3⟩
      have hC' := hC.trans (hb3.mono hC.size)
      have vu0 := (hb3.block _ (row_lt u0)).trans u0
      have vu1 := (hb3.block _ (row_lt u1)).trans u1
      clear u0 u1
      have u0 := vu0
      clear vu0
      have u1 := vu1
      clear vu1
      clear hb3 hC
      go_wp2_with fail
      refine hK.out _ _ ⟨u0, u1⟩ (fun hHn => ?_)
      clear hK K hHo
      have hHo := hHn
      clear hHn
      try simp only [List.getElem_toArray, List.getElem_cons_succ, List.getElem_cons_zero, Act.put, List.setIfInBounds_toArray, List.set_cons_zero, List.set_cons_succ]
      have hC := hC'
      clear hC'
      refine wpAnyH_ready (rs := [3, 9]) (by kernel_rfl) (by simp) ?_
      refine AllReadyH.cons rfl (fun K hK => ?_) (AllReadyH.cons rfl (fun K hK => ?_) AllReadyH.nil)
      · go_simp
        go_at_call 9
        refine (HTN.out _ (HBF9.out.trans (hC.mono HBF9.out.size))).mono ?_
        rintro e w31 ⟨g2, bs2, rfl, ho2, -, -, hb3⟩
        have hC' := hC.trans (hb3.mono hC.size)
        have vu0 := (hb3.block _ (row_lt u0)).trans u0
        have vu1 := (hb3.block _ (row_lt u1)).trans u1
        clear u0 u1
        have u0 := vu0
        clear vu0
        have u1 := vu1
        clear vu1
        clear hb3 hC
        go_wp2_with fail
        refine hK.out _ _ ⟨u0, u1⟩ (fun hHn => ?_)
        clear hK K hHo
        have hHo := hHn
        clear hHn
        try simp only [List.getElem_toArray, List.getElem_cons_succ, List.getElem_cons_zero, Act.put, List.setIfInBounds_toArray, List.set_cons_zero, List.set_cons_succ]
        have hC := hC'
        clear hC'
        refine wpAnyH_ready (rs := [5, 9]) (by kernel_rfl) (by simp) ?_
        refine AllReadyH.cons rfl (fun K hK => ?_) (AllReadyH.cons rfl (fun K hK => ?_) AllReadyH.nil)
        · go_simp
          go_at_call 17
          refine (HIA.out _ _ g2 ho2.nd).mono ?_
          rintro e w32 ⟨hy, bs, rfl, hov, hnd, hg, hb3⟩
          clear ho2
          have hC' := hC.trans (hb3.mono hC.size)
          have hgs : w9.heap.size ≤ w31.heap.size := hC.size
          have hlt := fun b hb => (hov.lt b hb).1
          have vu0 := (hb3.block _ (row_lt u0)).trans u0
          have vu1 := (hb3.block _ (row_lt u1)).trans u1
          clear u0 u1
          have u0 := vu0
          clear vu0
          have u1 := vu1
          clear vu1
          clear hb3 hC
          go_wp2_with fail
          refine hK.out _ _ ⟨u0, u1⟩ (fun hHn => ?_)
          clear hK K hHo
          have hHo := hHn
          clear hHn
          try simp only [List.getElem_toArray, List.getElem_cons_succ, List.getElem_cons_zero, Act.put, List.setIfInBounds_toArray, List.set_cons_zero, List.set_cons_succ]
          have hC := hC'
          clear hC'
          refine wpAnyH_take (i := 6) (v := ?_) rfl (by kernel_rfl) (by kernel_rfl) (by kernel_rfl) (fun _ _ _ h => h) (Or.inl ⟨by rfl, ?_⟩) (by assumption) ?_
          rotate_left
          · intro w hSw
            (try dsimp only at hSw)
            go_simp
            try with_reducible rfl
          try simp only [List.getElem_toArray, List.getElem_cons_succ, List.getElem_cons_zero, Act.put, List.setIfInBounds_toArray, List.set_cons_zero, List.set_cons_succ]
          refine wpAnyH_take (i := 7) (v := ?_) rfl (by kernel_rfl) (by kernel_rfl) (by kernel_rfl) (fun _ _ _ h => h) (Or.inl ⟨by rfl, ?_⟩) (by assumption) ?_
          rotate_left
          · intro w hSw
            (try dsimp only at hSw)
            go_simp
            try with_reducible rfl
          try simp only [List.getElem_toArray, List.getElem_cons_succ, List.getElem_cons_zero, Act.put, List.setIfInBounds_toArray, List.set_cons_zero, List.set_cons_succ]
          refine wpAnyH_take (i := 8) (v := ?_) rfl (by kernel_rfl) (by kernel_rfl) (by kernel_rfl) (fun _ _ _ h => h) (Or.inl ⟨by rfl, ?_⟩) (by assumption) ?_
          rotate_left
          · intro w hSw
            (try dsimp only at hSw)
            go_simp
            try with_reducible rfl
          try simp only [List.getElem_toArray, List.getElem_cons_succ, List.getElem_cons_zero, Act.put, List.setIfInBounds_toArray, List.set_cons_zero, List.set_cons_succ]
          refine wpAnyH_ready (rs := [9]) (by kernel_rfl) (by simp) ?_
          refine AllReadyH.cons rfl (fun K hK => ?_) AllReadyH.nil
          go_simp
          have hba : Below w32.heap.size w32 ((w32.alloc (.cells #[.int .i64 0, .string { data := #[] }, .slice none 0 0, .int .i64 0, .int .i64 0, .slice none 0 0] nodeT))) := (Below.refl w32.heap.size w32).alloc (Nat.le_refl _) (.cells #[.int .i64 0, .string { data := #[] }, .slice none 0 0, .int .i64 0, .int .i64 0, .slice none 0 0] nodeT)
          have hC' : Below w9.heap.size w9 ((w32.alloc (.cells #[.int .i64 0, .string { data := #[] }, .slice none 0 0, .int .i64 0, .int .i64 0, .slice none 0 0] nodeT))) := hC.trans (hba.mono hC.size)
          have ub : ((w32.alloc (.cells #[.int .i64 0, .string { data := #[] }, .slice none 0 0, .int .i64 0, .int .i64 0, .slice none 0 0] nodeT))).heap[w32.heap.size]? = some (.cells #[.int .i64 0, .string { data := #[] }, .slice none 0 0, .int .i64 0, .int .i64 0, .slice none 0 0] nodeT (0, 0)) := heap_alloc_new w32 (.cells #[.int .i64 0, .string { data := #[] }, .slice none 0 0, .int .i64 0, .int .i64 0, .slice none 0 0] nodeT)
          obtain ⟨vb, hvbe⟩ : ∃ vb, vb = w32.heap.size := ⟨_, rfl⟩
          have hvb : w9.heap.size ≤ vb := by rw [hvbe]; exact hC.size
          have vu0 := (hba.block _ (row_lt u0)).trans u0
          have vu1 := (hba.block _ (row_lt u1)).trans u1
          have vhov := hov.below hba
          clear u0 u1 hov
          have u0 := vu0
          clear vu0
          have u1 := vu1
          clear vu1
          have hov := vhov
          clear vhov
          have hfar : ∀ b ∈ bs, w9.heap.size ≤ b ∧ b ≠ vb := fun b hb => ⟨by have := hg b hb; have := hgs; omega, by have := hlt b hb; omega⟩
          clear hba hC
          rw [← hvbe] at ub ⊢
          clear hvbe
          generalize ((w32.alloc (.cells #[.int .i64 0, .string { data := #[] }, .slice none 0 0, .int .i64 0, .int .i64 0, .slice none 0 0] nodeT))) = wa at *
          refine hK.out _ _ ⟨u0, u1⟩ (fun hHn => ?_)
          clear hK K hHo
          have hHo := hHn
          clear hHn
          try simp only [List.getElem_toArray, List.getElem_cons_succ, List.getElem_cons_zero, Act.put, List.setIfInBounds_toArray, List.set_cons_zero, List.set_cons_succ]
          have hC := hC'
          clear hC'
          refine wpAnyH_ready (rs := [10]) (by kernel_rfl) (by simp) ?_
          refine AllReadyH.cons rfl (fun K hK => ?_) AllReadyH.nil
          obtain ⟨z0, z1, z2', z3, z4, z5⟩ := cells6 ub
          have zf := row_free ub
          go_simp
          obtain ⟨wf, hwf, hrw, hbf, hkf⟩ := finN (w := w9) (R := w9.heap.size) (.int .i64 y.kind) (.string y.data) (.slice hy.A y.ptrs.length hy.a) (.int .i64 y.size) (.int .i64 y.count) (.slice hy.B y.items.length hy.b) ub hC hvb
          have HWF := Lib.hid hwf
          have HVO : Hid (NodO (m + 1) y w9.heap.size wf vb hy bs) := Lib.hid ⟨hrw, hov.frame (fun b hb => hkf b (hfar b hb).2), hnd, hfar, hvb⟩
          have HBF := Lib.hid hbf
          have x0 := (hbf.block _ (row_lt E0.out)).trans E0.out
          have x1 := (hbf.block _ (row_lt E1.out)).trans E1.out
          clear hwf z0 z1 z2' z3 z4 z5 zf ub hC hkf hrw hbf hov hfar hnd hg hlt hgs hvb
          rw [HWF.out]
          refine hK.out _ _ ⟨x0, x1⟩ (fun hHn => ?_)
          clear HWF x0 x1
          clear hK K hHo
          have hHo := hHn
          clear hHn
          try simp only [List.getElem_toArray, List.getElem_cons_succ, List.getElem_cons_zero, Act.put, List.setIfInBounds_toArray, List.set_cons_zero, List.set_cons_succ]
          refine wpAnyH_take (i := 11) (v := ?_) rfl (by kernel_rfl) (by kernel_rfl) (by kernel_rfl) (fun _ _ _ h => h) (Or.inl ⟨by rfl, ?_⟩) (by assumption) ?_
          rotate_left
          · intro w hSw
            (try dsimp only at hSw)
            go_simp
            try with_reducible rfl
          try simp only [List.getElem_toArray, List.getElem_cons_succ, List.getElem_cons_zero, Act.put, List.setIfInBounds_toArray, List.set_cons_zero, List.set_cons_succ]
          refine wpAnyH_done (by kernel_rfl) ?_ _
          clear hHo
          go_wp2_with fail
          go_meet
          case rel => exact ⟨vb, hy, bs, rfl, rfl, HVO, HBF⟩
        · go_simp
          have hba : Below w31.heap.size w31 ((w31.alloc (.cells #[.int .i64 0, .string { data := #[] }, .slice none 0 0, .int .i64 0, .int .i64 0, .slice none 0 0] nodeT))) := (Below.refl w31.heap.size w31).alloc (Nat.le_refl _) (.cells #[.int .i64 0, .string { data := #[] }, .slice none 0 0, .int .i64 0, .int .i64 0, .slice none 0 0] nodeT)
          have hC' : Below w9.heap.size w9 ((w31.alloc (.cells #[.int .i64 0, .string { data := #[] }, .slice none 0 0, .int .i64 0, .int .i64 0, .slice none 0 0] nodeT))) := hC.trans (hba.mono hC.size)
          have ub : ((w31.alloc (.cells #[.int .i64 0, .string { data := #[] }, .slice none 0 0, .int .i64 0, .int .i64 0, .slice none 0 0] nodeT))).heap[w31.heap.size]? = some (.cells #[.int .i64 0, .string { data := #[] }, .slice none 0 0, .int .i64 0, .int .i64 0, .slice none 0 0] nodeT (0, 0)) := heap_alloc_new w31 (.cells #[.int .i64 0, .string { data := #[] }, .slice none 0 0, .int .i64 0, .int .i64 0, .slice none 0 0] nodeT)
          obtain ⟨vb, hvbe⟩ : ∃ vb, vb = w31.heap.size := ⟨_, rfl⟩
          have hvb : w9.heap.size ≤ vb := by rw [hvbe]; exact hC.size
          have vu0 := (hba.block _ (row_lt u0)).trans u0
          have vu1 := (hba.block _ (row_lt u1)).trans u1
          have vho2 := ho2.below hba
          clear u0 u1 ho2
          have u0 := vu0
          clear vu0
          have u1 := vu1
          clear vu1
          have ho2 := vho2
          clear vho2
          clear hba hC
          rw [← hvbe] at ub ⊢
          clear hvbe
          generalize ((w31.alloc (.cells #[.int .i64 0, .string { data := #[] }, .slice none 0 0, .int .i64 0, .int .i64 0, .slice none 0 0] nodeT))) = wa at *
          refine hK.out _ _ ⟨u0, u1⟩ (fun hHn => ?_)
          clear hK K hHo
          have hHo := hHn
          clear hHn
          try simp only [List.getElem_toArray, List.getElem_cons_succ, List.getElem_cons_zero, Act.put, List.setIfInBounds_toArray, List.set_cons_zero, List.set_cons_succ]
          have hC := hC'
          clear hC'
          refine wpAnyH_ready (rs := [5]) (by kernel_rfl) (by simp) ?_
          refine AllReadyH.cons rfl (fun K hK => ?_) AllReadyH.nil
          go_simp
          go_at_call 17
          refine (HIA.out _ _ g2 ho2.nd).mono ?_
          rintro e w32 ⟨hy, bs, rfl, hov, hnd, hg, hb3⟩
          clear ho2
          have hC' := hC.trans (hb3.mono hC.size)
          have hgs : w9.heap.size ≤ wa.heap.size := hC.size
          have hlt := fun b hb => (hov.lt b hb).1
          have hvl := row_lt ub
          have hfar : ∀ b ∈ bs, w9.heap.size ≤ b ∧ b ≠ vb := fun b hb => ⟨by have := hg b hb; omega, by have := hg b hb; omega⟩
          have vu0 := (hb3.block _ (row_lt u0)).trans u0
          have vu1 := (hb3.block _ (row_lt u1)).trans u1
          have vub := (hb3.block _ (row_lt ub)).trans ub
          clear u0 u1 ub
          have u0 := vu0
          clear vu0
          have u1 := vu1
          clear vu1
          have ub := vub
          clear vub
          clear hb3 hC
          go_wp2_with fail
          refine hK.out _ _ ⟨u0, u1⟩ (fun hHn => ?_)
          clear hK K hHo
          have hHo := hHn
          clear hHn
          try simp only [List.getElem_toArray, List.getElem_cons_succ, List.getElem_cons_zero, Act.put, List.setIfInBounds_toArray, List.set_cons_zero, List.set_cons_succ]
          have hC := hC'
          clear hC'
          refine wpAnyH_take (i := 6) (v := ?_) rfl (by kernel_rfl) (by kernel_rfl) (by kernel_rfl) (fun _ _ _ h => h) (Or.inl ⟨by rfl, ?_⟩) (by assumption) ?_
          rotate_left
          · intro w hSw
            (try dsimp only at hSw)
            go_simp
            try with_reducible rfl
          try simp only [List.getElem_toArray, List.getElem_cons_succ, List.getElem_cons_zero, Act.put, List.setIfInBounds_toArray, List.set_cons_zero, List.set_cons_succ]
          refine wpAnyH_take (i := 7) (v := ?_) rfl (by kernel_rfl) (by kernel_rfl) (by kernel_rfl) (fun _ _ _ h => h) (Or.inl ⟨by rfl, ?_⟩) (by assumption) ?_
          rotate_left
          · intro w hSw
            (try dsimp only at hSw)
            go_simp
            try with_reducible rfl
          try simp only [List.getElem_toArray, List.getElem_cons_succ, List.getElem_cons_zero, Act.put, List.setIfInBounds_toArray, List.set_cons_zero, List.set_cons_succ]
          refine wpAnyH_take (i := 8) (v := ?_) rfl (by kernel_rfl) (by kernel_rfl) (by kernel_rfl) (fun _ _ _ h => h) (Or.inl ⟨by rfl, ?_⟩) (by assumption) ?_
          rotate_left
          · intro w hSw
            (try dsimp only at hSw)
            go_simp
            try with_reducible rfl
          try simp only [List.getElem_toArray, List.getElem_cons_succ, List.getElem_cons_zero, Act.put, List.setIfInBounds_toArray, List.set_cons_zero, List.set_cons_succ]
          refine wpAnyH_ready (rs := [10]) (by kernel_rfl) (by simp) ?_
          refine AllReadyH.cons rfl (fun K hK => ?_) AllReadyH.nil
          obtain ⟨z0, z1, z2', z3, z4, z5⟩ := cells6 ub
          have zf := row_free ub
          go_simp
          obtain ⟨wf, hwf, hrw, hbf, hkf⟩ := finN (w := w9) (R := w9.heap.size) (.int .i64 y.kind) (.string y.data) (.slice hy.A y.ptrs.length hy.a) (.int .i64 y.size) (.int .i64 y.count) (.slice hy.B y.items.length hy.b) ub hC hvb
          have HWF := Lib.hid hwf
          have HVO : Hid (NodO (m + 1) y w9.heap.size wf vb hy bs) := Lib.hid ⟨hrw, hov.frame (fun b hb => hkf b (hfar b hb).2), hnd, hfar, hvb⟩
          have HBF := Lib.hid hbf
          have x0 := (hbf.block _ (row_lt E0.out)).trans E0.out
          have x1 := (hbf.block _ (row_lt E1.out)).trans E1.out
          clear hwf z0 z1 z2' z3 z4 z5 zf ub hC hkf hrw hbf hov hfar hnd hg hlt hgs hvb
          rw [HWF.out]
          refine hK.out _ _ ⟨x0, x1⟩ (fun hHn => ?_)
          clear HWF x0 x1
          clear hK K hHo
          have hHo := hHn
          clear hHn
          try simp only [List.getElem_toArray, List.getElem_cons_succ, List.getElem_cons_zero, Act.put, List.setIfInBounds_toArray, List.set_cons_zero, List.set_cons_succ]
          refine wpAnyH_take (i := 11) (v := ?_) rfl (by kernel_rfl) (by kernel_rfl) (by kernel_rfl) (fun _ _ _ h => h) (Or.inl ⟨by rfl, ?_⟩) (by assumption) ?_
          rotate_left
          · intro w hSw
            (try dsimp only at hSw)
            go_simp
            try with_reducible rfl
          try simp only [List.getElem_toArray, List.getElem_cons_succ, List.getElem_cons_zero, Act.put, List.setIfInBounds_toArray, List.set_cons_zero, List.set_cons_succ]
          refine wpAnyH_done (by kernel_rfl) ?_ _
          clear hHo
          go_wp2_with fail
          go_meet
          case rel => exact ⟨vb, hy, bs, rfl, rfl, HVO, HBF⟩
      · go_simp
        have hba : Below w30.heap.size w30 ((w30.alloc (.cells #[.int .i64 0, .string { data := #[] }, .slice none 0 0, .int .i64 0, .int .i64 0, .slice none 0 0] nodeT))) := (Below.refl w30.heap.size w30).alloc (Nat.le_refl _) (.cells #[.int .i64 0, .string { data := #[] }, .slice none 0 0, .int .i64 0, .int .i64 0, .slice none 0 0] nodeT)
        have hC' : Below w9.heap.size w9 ((w30.alloc (.cells #[.int .i64 0, .string { data := #[] }, .slice none 0 0, .int .i64 0, .int .i64 0, .slice none 0 0] nodeT))) := hC.trans (hba.mono hC.size)
        have ub : ((w30.alloc (.cells #[.int .i64 0, .string { data := #[] }, .slice none 0 0, .int .i64 0, .int .i64 0, .slice none 0 0] nodeT))).heap[w30.heap.size]? = some (.cells #[.int .i64 0, .string { data := #[] }, .slice none 0 0, .int .i64 0, .int .i64 0, .slice none 0 0] nodeT (0, 0)) := heap_alloc_new w30 (.cells #[.int .i64 0, .string { data := #[] }, .slice none 0 0, .int .i64 0, .int .i64 0, .slice none 0 0] nodeT)
        obtain ⟨vb, hvbe⟩ : ∃ vb, vb = w30.heap.size := ⟨_, rfl⟩
        have hvb : w9.heap.size ≤ vb := by rw [hvbe]; exact hC.size
        have vu0 := (hba.block _ (row_lt u0)).trans u0
        have vu1 := (hba.block _ (row_lt u1)).trans u1
        clear u0 u1
        have u0 := vu0
        clear vu0
        have u1 := vu1
        clear vu1
        clear hba hC
        rw [← hvbe] at ub ⊢
        clear hvbe
        generalize ((w30.alloc (.cells #[.int .i64 0, .string { data := #[] }, .slice none 0 0, .int .i64 0, .int .i64 0, .slice none 0 0] nodeT))) = wa at *
        refine hK.out _ _ ⟨u0, u1⟩ (fun hHn => ?_)
        clear hK K hHo
        have hHo := hHn
        clear hHn
        try simp only [List.getElem_toArray, List.getElem_cons_succ, List.getElem_cons_zero, Act.put, List.setIfInBounds_toArray, List.set_cons_zero, List.set_cons_succ]
        have hC := hC'
        clear hC'
        refine wpAnyH_ready (rs := [3]) (by kernel_rfl) (by simp) ?_
        refine AllReadyH.cons rfl (fun K hK => ?_) AllReadyH.nil
        go_simp
        go_at_call 9
        refine (HTN.out _ (HBF9.out.trans (hC.mono HBF9.out.size))).mono ?_
        rintro e w31 ⟨g2, bs2, rfl, ho2, -, -, hb3⟩
        have hC' := hC.trans (hb3.mono hC.size)
        have vu0 := (hb3.block _ (row_lt u0)).trans u0
        have vu1 := (hb3.block _ (row_lt u1)).trans u1
        have vub := (hb3.block _ (row_lt ub)).trans ub
        clear u0 u1 ub
        have u0 := vu0
        clear vu0
        have u1 := vu1
        clear vu1
        have ub := vub
        clear vub
        clear hb3 hC
        go_wp2_with fail
        refine hK.out _ _ ⟨u0, u1⟩ (fun hHn => ?_)
        clear hK K hHo
        have hHo := hHn
        clear hHn
        try simp only [List.getElem_toArray, List.getElem_cons_succ, List.getElem_cons_zero, Act.put, List.setIfInBounds_toArray, List.set_cons_zero, List.set_cons_succ]
        have hC := hC'
        clear hC'
        refine wpAnyH_ready (rs := [5]) (by kernel_rfl) (by simp) ?_
        refine AllReadyH.cons rfl (fun K hK => ?_) AllReadyH.nil
        go_simp
        go_at_call 17
        refine (HIA.out _ _ g2 ho2.nd).mono ?_
        rintro e w32 ⟨hy, bs, rfl, hov, hnd, hg, hb3⟩
        clear ho2
        have hC' := hC.trans (hb3.mono hC.size)
        have hgs : w9.heap.size ≤ w31.heap.size := hC.size
        have hlt := fun b hb => (hov.lt b hb).1
        have hvl := row_lt ub
        have hfar : ∀ b ∈ bs, w9.heap.size ≤ b ∧ b ≠ vb := fun b hb => ⟨by have := hg b hb; omega, by have := hg b hb; omega⟩
        have vu0 := (hb3.block _ (row_lt u0)).trans u0
        have vu1 := (hb3.block _ (row_lt u1)).trans u1
        have vub := (hb3.block _ (row_lt ub)).trans ub
        clear u0 u1 ub
        have u0 := vu0
        clear vu0
        have u1 := vu1
        clear vu1
        have ub := vub
        clear vub
        clear hb3 hC
        go_wp2_with fail
        refine hK.out _ _ ⟨u0, u1⟩ (fun hHn => ?_)
        clear hK K hHo
        have hHo := hHn
        clear hHn
        try simp only [List.getElem_toArray, List.getElem_cons_succ, List.getElem_cons_zero, Act.put, List.setIfInBounds_toArray, List.set_cons_zero, List.set_cons_succ]
        have hC := hC'
        clear hC'
        refine wpAnyH_take (i := 6) (v := ?_) rfl (by kernel_rfl) (by kernel_rfl) (by kernel_rfl) (fun _ _ _ h => h) (Or.inl ⟨by rfl, ?_⟩) (by assumption) ?_
        rotate_left
        · intro w hSw
          (try dsimp only at hSw)
          go_simp
          try with_reducible rfl
        try simp only [List.getElem_toArray, List.getElem_cons_succ, List.getElem_cons_zero, Act.put, List.setIfInBounds_toArray, List.set_cons_zero, List.set_cons_succ]
        refine wpAnyH_take (i := 7) (v := ?_) rfl (by kernel_rfl) (by kernel_rfl) (by kernel_rfl) (fun _ _ _ h => h) (Or.inl ⟨by rfl, ?_⟩) (by assumption) ?_
        rotate_left
        · intro w hSw
          (try dsimp only at hSw)
          go_simp
          try with_reducible rfl
        try simp only [List.getElem_toArray, List.getElem_cons_succ, List.getElem_cons_zero, Act.put, List.setIfInBounds_toArray, List.set_cons_zero, List.set_cons_succ]
        refine wpAnyH_take (i := 8) (v := ?_) rfl (by kernel_rfl) (by kernel_rfl) (by kernel_rfl) (fun _ _ _ h => h) (Or.inl ⟨by rfl, ?_⟩) (by assumption) ?_
        rotate_left
        · intro w hSw
          (try dsimp only at hSw)
          go_simp
          try with_reducible rfl
        try simp only [List.getElem_toArray, List.getElem_cons_succ, List.getElem_cons_zero, Act.put, List.setIfInBounds_toArray, List.set_cons_zero, List.set_cons_succ]
        refine wpAnyH_ready (rs := [10]) (by kernel_rfl) (by simp) ?_
        refine AllReadyH.cons rfl (fun K hK => ?_) AllReadyH.nil
        obtain ⟨z0, z1, z2', z3, z4, z5⟩ := cells6 ub
        have zf := row_free ub
        go_simp
        obtain ⟨wf, hwf, hrw, hbf, hkf⟩ := finN (w := w9) (R := w9.heap.size) (.int .i64 y.kind) (.string y.data) (.slice hy.A y.ptrs.length hy.a) (.int .i64 y.size) (.int .i64 y.count) (.slice hy.B y.items.length hy.b) ub hC hvb
        have HWF := Lib.hid hwf
        have HVO : Hid (NodO (m + 1) y w9.heap.size wf vb hy bs) := Lib.hid ⟨hrw, hov.frame (fun b hb => hkf b (hfar b hb).2), hnd, hfar, hvb⟩
        have HBF := Lib.hid hbf
        have x0 := (hbf.block _ (row_lt E0.out)).trans E0.out
        have x1 := (hbf.block _ (row_lt E1.out)).trans E1.out
        clear hwf z0 z1 z2' z3 z4 z5 zf ub hC hkf hrw hbf hov hfar hnd hg hlt hgs hvb
        rw [HWF.out]
        refine hK.out _ _ ⟨x0, x1⟩ (fun hHn => ?_)
        clear HWF x0 x1
        clear hK K hHo
        have hHo := hHn
        clear hHn
        try simp only [List.getElem_toArray, List.getElem_cons_succ, List.getElem_cons_zero, Act.put, List.setIfInBounds_toArray, List.set_cons_zero, List.set_cons_succ]
        refine wpAnyH_take (i := 11) (v := ?_) rfl (by kernel_rfl) (by kernel_rfl) (by kernel_rfl) (fun _ _ _ h => h) (Or.inl ⟨by rfl, ?_⟩) (by assumption) ?_
        rotate_left
        · intro w hSw
          (try dsimp only at hSw)
          go_simp
          try with_reducible rfl
        try simp only [List.getElem_toArray, List.getElem_cons_succ, List.getElem_cons_zero, Act.put, List.setIfInBounds_toArray, List.set_cons_zero, List.set_cons_succ]
        refine wpAnyH_done (by kernel_rfl) ?_ _
        clear hHo
        go_wp2_with fail
        go_meet
        case rel => exact ⟨vb, hy, bs, rfl, rfl, HVO, HBF⟩
    · go_simp
      have hba : Below w9.heap.size w9.drew ((w9.alloc (.cells #[.int .i64 0, .string { data := #[] }, .slice none 0 0, .int .i64 0, .int .i64 0, .slice none 0 0] nodeT)).drew) := (Below.refl w9.drew.heap.size w9.drew).alloc (Nat.le_refl _) (.cells #[.int .i64 0, .string { data := #[] }, .slice none 0 0, .int .i64 0, .int .i64 0, .slice none 0 0] nodeT)
      have hC' : Below w9.heap.size w9 ((w9.alloc (.cells #[.int .i64 0, .string { data := #[] }, .slice none 0 0, .int .i64 0, .int .i64 0, .slice none 0 0] nodeT)).drew) := hC.trans (hba.mono hC.size)
      have ub : ((w9.alloc (.cells #[.int .i64 0, .string { data := #[] }, .slice none 0 0, .int .i64 0, .int .i64 0, .slice none 0 0] nodeT)).drew).heap[w9.heap.size]? = some (.cells #[.int .i64 0, .string { data := #[] }, .slice none 0 0, .int .i64 0, .int .i64 0, .slice none 0 0] nodeT (0, 0)) := heap_alloc_new w9.drew (.cells #[.int .i64 0, .string { data := #[] }, .slice none 0 0, .int .i64 0, .int .i64 0, .slice none 0 0] nodeT)
      obtain ⟨vb, hvbe⟩ : ∃ vb, vb = w9.heap.size := ⟨_, rfl⟩
      have hvb : w9.heap.size ≤ vb := by rw [hvbe]; exact hC.size
      have vu0 := (hba.block _ (row_lt u0)).trans u0
      have vu1 := (hba.block _ (row_lt u1)).trans u1
      clear u0 u1
      have u0 := vu0
      clear vu0
      have u1 := vu1
      clear vu1
      clear hba hC
      rw [← hvbe] at ub ⊢
      clear hvbe
      generalize ((w9.alloc (.cells #[.int .i64 0, .string { data := #[] }, .slice none 0 0, .int .i64 0, .int .i64 0, .slice none 0 0] nodeT)).drew) = wa at *
      refine hK.out _ _ ⟨u0, u1⟩ (fun hHn => ?_)
      clear hK K hHo
      have hHo := hHn
      clear hHn
      try simp only [List.getElem_toArray, List.getElem_cons_succ, List.getElem_cons_zero, Act.put, List.setIfInBounds_toArray, List.set_cons_zero, List.set_cons_succ]
      have hC := hC'
      clear hC'
      refine wpAnyH_ready (rs := [1]) (by kernel_rfl) (by simp) ?_
      refine AllReadyH.cons rfl (fun K hK => ?_) AllReadyH.nil
      go_simp
      go_at_call 8
      refine (HT.out _).mono ?_
      rintro e w30 ⟨rfl, hb3⟩
      have hC' := hC.trans (hb3.mono hC.size)
      have vu0 := (hb3.block _ (row_lt u0)).trans u0
      have vu1 := (hb3.block _ (row_lt u1)).trans u1
      have vub := (hb3.block _ (row_lt ub)).trans ub
      clear u0 u1 ub
      have u0 := vu0
      clear vu0
      have u1 := vu1
      clear vu1
      have ub := vub
      clear vub
      clear hb3 hC
      go_wp2_with fail
      refine hK.out _ _ ⟨u0, u1⟩ (fun hHn => ?_)
      clear hK K hHo
      have hHo := hHn
      clear hHn
      try simp only [List.getElem_toArray, List.getElem_cons_succ, List.getElem_cons_zero, Act.put, List.setIfInBounds_toArray, List.set_cons_zero, List.set_cons_succ]
      have hC := hC'
      clear hC'
      refine wpAnyH_ready (rs := [3]) (by kernel_rfl) (by simp) ?_
      refine AllReadyH.cons rfl (fun K hK => ?_) AllReadyH.nil
      go_simp
      go_at_call 9
      refine (HTN.out _ (HBF9.out.trans (hC.mono HBF9.out.size))).mono ?_
      rintro e w31 ⟨g2, bs2, rfl, ho2, -, -, hb3⟩
      have hC' := hC.trans (hb3.mono hC.size)
      have vu0 := (hb3.block _ (row_lt u0)).trans u0
      have vu1 := (hb3.block _ (row_lt u1)).trans u1
      have vub := (hb3.block _ (row_lt ub)).trans ub
      clear u0 u1 ub
      have u0 := vu0
      clear vu0
      have u1 := vu1
      clear vu1
      have ub := vub
      clear vub
      clear hb3 hC
      go_wp2_with fail
      refine hK.out _ _ ⟨u0, u1⟩ (fun hHn => ?_)
      clear hK K hHo
      have hHo := hHn
      clear hHn
      try simp only [List.getElem_toArray, List.getElem_cons_succ, List.getElem_cons_zero, Act.put, List.setIfInBounds_toArray, List.set_cons_zero, List.set_cons_succ]
      have hC := hC'
      clear hC'
      refine wpAnyH_ready (rs := [5]) (by kernel_rfl) (by simp) ?_
      refine AllReadyH.cons rfl (fun K hK => ?_) AllReadyH.nil
      go_simp
      go_at_call 17
      refine (HIA.out _ _ g2 ho2.nd).mono ?_
      rintro e w32 ⟨hy, bs, rfl, hov, hnd, hg, hb3⟩
      clear ho2
      have hC' := hC.trans (hb3.mono hC.size)
      have hgs : w9.heap.size ≤ w31.heap.size := hC.size
      have hlt := fun b hb => (hov.lt b hb).1
      have hvl := row_lt ub
      have hfar : ∀ b ∈ bs, w9.heap.size ≤ b ∧ b ≠ vb := fun b hb => ⟨by have := hg b hb; omega, by have := hg b hb; omega⟩
      have vu0 := (hb3.block _ (row_lt u0)).trans u0
      have vu1 := (hb3.block _ (row_lt u1)).trans u1
      have vub := (hb3.block _ (row_lt ub)).trans ub
      clear u0 u1 ub
      have u0 := vu0
      clear vu0
      have u1 := vu1
      clear vu1
      have ub := vub
      clear vub
      clear hb3 hC
      go_wp2_with fail
      refine hK.out _ _ ⟨u0, u1⟩ (fun hHn => ?_)
      clear hK K hHo
      have hHo := hHn
      clear hHn
      try simp only [List.getElem_toArray, List.getElem_cons_succ, List.getElem_cons_zero, Act.put, List.setIfInBounds_toArray, List.set_cons_zero, List.set_cons_succ]
      have hC := hC'
      clear hC'
      refine wpAnyH_take (i := 6) (v := ?_) rfl (by kernel_rfl) (by kernel_rfl) (by kernel_rfl) (fun _ _ _ h => h) (Or.inl ⟨by rfl, ?_⟩) (by assumption) ?_
      rotate_left
      · intro w hSw
        (try dsimp only at hSw)
        go_simp
        try with_reducible rfl
      try simp only [List.getElem_toArray, List.getElem_cons_succ, List.getElem_cons_zero, Act.put, List.setIfInBounds_toArray, List.set_cons_zero, List.set_cons_succ]
      refine wpAnyH_take (i := 7) (v := ?_) rfl (by kernel_rfl) (by kernel_rfl) (by kernel_rfl) (fun _ _ _ h => h) (Or.inl ⟨by rfl, ?_⟩) (by assumption) ?_
      rotate_left
      · intro w hSw
        (try dsimp only at hSw)
        go_simp
        try with_reducible rfl
      try simp only [List.getElem_toArray, List.getElem_cons_succ, List.getElem_cons_zero, Act.put, List.setIfInBounds_toArray, List.set_cons_zero, List.set_cons_succ]
      refine wpAnyH_take (i := 8) (v := ?_) rfl (by kernel_rfl) (by kernel_rfl) (by kernel_rfl) (fun _ _ _ h => h) (Or.inl ⟨by rfl, ?_⟩) (by assumption) ?_
      rotate_left
      · intro w hSw
        (try dsimp only at hSw)
        go_simp
        try with_reducible rfl
      try simp only [List.getElem_toArray, List.getElem_cons_succ, List.getElem_cons_zero, Act.put, List.setIfInBounds_toArray, List.set_cons_zero, List.set_cons_succ]
      refine wpAnyH_ready (rs := [10]) (by kernel_rfl) (by simp) ?_
      refine AllReadyH.cons rfl (fun K hK => ?_) AllReadyH.nil
      obtain ⟨z0, z1, z2', z3, z4, z5⟩ := cells6 ub
      have zf := row_free ub
      go_simp
      obtain ⟨wf, hwf, hrw, hbf, hkf⟩ := finN (w := w9) (R := w9.heap.size) (.int .i64 y.kind) (.string y.data) (.slice hy.A y.ptrs.length hy.a) (.int .i64 y.size) (.int .i64 y.count) (.slice hy.B y.items.length hy.b) ub hC hvb
      have HWF := Lib.hid hwf
      have HVO : Hid (NodO (m + 1) y w9.heap.size wf vb hy bs) := Lib.hid ⟨hrw, hov.frame (fun b hb => hkf b (hfar b hb).2), hnd, hfar, hvb⟩
      have HBF := Lib.hid hbf
      have x0 := (hbf.block _ (row_lt E0.out)).trans E0.out
      have x1 := (hbf.block _ (row_lt E1.out)).trans E1.out
      clear hwf z0 z1 z2' z3 z4 z5 zf ub hC hkf hrw hbf hov hfar hnd hg hlt hgs hvb
      rw [HWF.out]
      refine hK.out _ _ ⟨x0, x1⟩ (fun hHn => ?_)
      clear HWF x0 x1
      clear hK K hHo
      have hHo := hHn
      clear hHn
      try simp only [List.getElem_toArray, List.getElem_cons_succ, List.getElem_cons_zero, Act.put, List.setIfInBounds_toArray, List.set_cons_zero, List.set_cons_succ]
      refine wpAnyH_take (i := 11) (v := ?_) rfl (by kernel_rfl) (by kernel_rfl) (by kernel_rfl) (fun _ _ _ h => h) (Or.inl ⟨by rfl, ?_⟩) (by assumption) ?_
      rotate_left
      · intro w hSw
        (try dsimp only at hSw)
        go_simp
        try with_reducible rfl
      try simp only [List.getElem_toArray, List.getElem_cons_succ, List.getElem_cons_zero, Act.put, List.setIfInBounds_toArray, List.set_cons_zero, List.set_cons_succ]
      refine wpAnyH_done (by kernel_rfl) ?_ _
      clear hHo
      go_wp2_with fail
      go_meet
      case rel => exact ⟨vb, hy, bs, rfl, rfl, HVO, HBF⟩
   case rest =>
    obtain ⟨vh, hh, bsh, rfl, rfl, HH, HC9⟩ := hcut
    have HVZ := Lib.hid (HVE.out.below HC9.out)
    have HGZ := Lib.hid ((HC9.out.block _ (row_lt HGE.out)).trans HGE.out)
    have HBZ := Lib.hid (HBF9.out.trans (HC9.out.mono HBF9.out.size))
    have HKZ := Lib.hid (HK9.out.trans (HC9.out.mono HK9.out.size))
    obtain ⟨v0, v1, v2, v3, v4, v5⟩ := cells6 HVZ.out.row
    obtain ⟨y0, y1, y2, y3, y4, y5⟩ := cells6 HH.out.row
    have HQ := Lib.hid (HEV.out _ _ _ hh hw HH.out.own.nd HVZ.out.own.nd)
    go_wp2_with fail
    refine HQ.out.mono ?_
    rintro e wy ⟨rfl, hby⟩
    clear v0 v1 v2 v3 v4 v5 y0 y1 y2 y3 y4 y5 HQ
    have HBY := Lib.hid (HBZ.out.trans (hby.mono HBZ.out.size))
    have HKY := Lib.hid (HKZ.out.trans (hby.mono HKZ.out.size))
    have hgy := (hby.block _ (row_lt HGZ.out)).trans HGZ.out
    obtain ⟨y0, y1, y2, y3, y4, y5⟩ := cells6 hgy
    clear hby hgy
    go_wp2_with fail
    refine (HHE.out _ HKY.out).mono ?_
    rintro e wz ⟨rfl, hbz⟩
    clear y0 y1 y2 y3 y4 y5
    have HBW := Lib.hid (HBY.out.trans (hbz.mono HBY.out.size))
    clear hbz
    go_wp2
    go_ret
    exact ⟨rfl, HBW.out⟩
end Go.Proofs.Ytfnecflkahmjoaa
