/- Texts of the proof of the law FnExactRecordGet, side by side: part 18. -/
import Derived.Deep.DeepCutAuto
import Derived.Test.YtehhbbdaeonebaaGreatDoorMExactRecordGet17
set_option maxHeartbeats 8000000
set_option maxRecDepth 100000
namespace Go.Proofs.YtehhbbdaeonebaaGreatDoor
open Go.RowKit Go.Deep
structure ValO (m : Nat) (x : Int) (y : Nd) (B : Nat) (w : World) (vb : Nat) (hy : Hd) (bs : List Nat) : Prop where
 row : w.heap[vb]? = some (.cells #[.int .i64 x, .int .i64 y.kind, .string y.data, .slice hy.A y.ptrs.length hy.a, .int .i64 y.size, .int .i64 y.count, .slice hy.B y.items.length hy.b] valT (0, 0))
 own : OwN w m y hy bs
 nodup : bs.Nodup
 far : ∀ b ∈ bs, B ≤ b ∧ b ≠ vb
 base : B ≤ vb
theorem ValO.lt {m : Nat} {x : Int} {y : Nd} {B : Nat} {w : World} {vb : Nat} {hy : Hd} {bs : List Nat} (h : ValO m x y B w vb hy bs) : vb < w.heap.size ∧ ∀ b ∈ bs, b < w.heap.size := ⟨row_lt h.row, fun b hb => (h.own.lt b hb).1⟩
theorem ValO.frame {m : Nat} {x : Int} {y : Nd} {B : Nat} {w w' : World} {vb : Nat} {hy : Hd} {bs : List Nat} (h : ValO m x y B w vb hy bs) (h0 : w'.heap[vb]? = w.heap[vb]?) (h1 : ∀ b ∈ bs, w'.heap[b]? = w.heap[b]?) : ValO m x y B w' vb hy bs := ⟨h0.trans h.row, h.own.frame h1, h.nodup, h.far, h.base⟩
theorem ValO.below {m : Nat} {x : Int} {y : Nd} {B : Nat} {w w' : World} {vb : Nat} {hy : Hd} {bs : List Nat} (h : ValO m x y B w vb hy bs) (hb : Below w.heap.size w w') : ValO m x y B w' vb hy bs := h.frame (hb.block _ h.lt.1) fun b hm => hb.block b (h.lt.2 b hm)
structure NodO (m : Nat) (y : Nd) (B : Nat) (w : World) (vb : Nat) (hy : Hd) (bs : List Nat) : Prop where
 row : w.heap[vb]? = some (.cells #[.int .i64 y.kind, .string y.data, .slice hy.A y.ptrs.length hy.a, .int .i64 y.size, .int .i64 y.count, .slice hy.B y.items.length hy.b] nodeT (0, 0))
 own : OwN w m y hy bs
 nodup : bs.Nodup
 far : ∀ b ∈ bs, B ≤ b ∧ b ≠ vb
 base : B ≤ vb
theorem NodO.lt {m : Nat} {y : Nd} {B : Nat} {w : World} {vb : Nat} {hy : Hd} {bs : List Nat} (h : NodO m y B w vb hy bs) : vb < w.heap.size ∧ ∀ b ∈ bs, b < w.heap.size := ⟨row_lt h.row, fun b hb => (h.own.lt b hb).1⟩
theorem NodO.below {m : Nat} {y : Nd} {B : Nat} {w w' : World} {vb : Nat} {hy : Hd} {bs : List Nat} (h : NodO m y B w vb hy bs) (hb : Below w.heap.size w w') : NodO m y B w' vb hy bs := ⟨(hb.block _ h.lt.1).trans h.row, h.own.below hb, h.nodup, h.far, h.base⟩
theorem szF_bigR {n : Nat} (h : 1048576 < n) : szF n 1048576 = -1 := by unfold szF; rw [if_pos (by omega)]
theorem szF_smallR {n : Nat} (h : n ≤ 1048576) : szF n 1048576 = 1048576 - n := by unfold szF; rw [if_neg (by omega)]
theorem walkExactRecordGet (w : World) (A : Option Addr) (len cap : Nat) (l : List Fld) (hlen : l.length = len) (hfl : Flds w A l) (hm : len ≤ maxLen) (m : Nat) (n : Nd) (h : Hd) (hn : NdAt w Any m n h) (a : Int) (_ : (Lit.int .i64 a).wf = true) (ht : Tab w) :
 Calls Tryz.prog 3 #[.slice A len cap, .agg #[.int .i64 n.kind, .string n.data, .slice h.A n.ptrs.length h.a, .int .i64 n.size, .int .i64 n.count, .slice h.B n.items.length h.b], .int .i64 a] w fun e w' => e = .returned (.bool true) ∧ Below w.heap.size w w' := by
 subst hlen
 have h1w : 2 < w.heap.size := World.block_lt_of_cell? w _ ht.t0
 have HB0 := Lib.hid ((Below.refl w.heap.size w).alloc (Nat.le_refl _) (.cells #[.int .i64 n.kind, .string n.data, .slice h.A n.ptrs.length h.a, .int .i64 n.size, .int .i64 n.count, .slice h.B n.items.length h.b] 25))
 have R1 := Lib.hid (heap_alloc_new w (.cells #[.int .i64 n.kind, .string n.data, .slice h.A n.ptrs.length h.a, .int .i64 n.size, .int .i64 n.count, .slice h.B n.items.length h.b] 25))
 have HM := Lib.hid hm
 clear hm
 by_cases hbig : 1048576 < l.length
 · have HS := Lib.hid (szF_bigR hbig)
   clear hn hfl ht
   go_enter Tryz.func3, Tryz.ntmps3
   go_wp2_with (go_at_call 5; go_must (refine (szFieldS_any A l.length cap 1048576 _ HM.out (by decide) (by decide)).mono ?_); rintro e w2 ⟨rfl, rfl⟩; rw [HS.out])
   go_ret
   exact ⟨rfl, HB0.out⟩
 have hsm : l.length ≤ 1048576 := by omega
 have HS := Lib.hid (szF_smallR hsm)
 obtain ⟨z, hz⟩ : ∃ z, (1048576 : Int) - (l.length : Nat) = z := ⟨_, rfl⟩
 rw [hz] at HS
 have hz0 : ¬ z < 0 := by omega
 have HZB : Hid (0 ≤ z ∧ z ≤ 1048576) := Lib.hid (by omega)
 have HLL : Hid (l.length ≤ 2000000) := Lib.hid (by omega)
 have HLB : Hid (l.length ≤ 1048576) := Lib.hid hsm
 clear hz hbig hsm
 have HSN := Lib.hid (fun (W : World) (hW : Below w.heap.size w W) => szN_any m n h W z Any (hn.below hW) HZB.out.1 (by have := HZB.out.2; omega))
 by_cases hbig : z < (totN m n : Nat)
 · rw [szR_neg hbig] at HSN
   clear hbig hn hfl ht
   go_enter Tryz.func3, Tryz.ntmps3
   go_wp2_with fail
   refine (szFieldS_any A l.length cap 1048576 _ HM.out (by decide) (by decide)).mono ?_
   rintro e w1 ⟨rfl, rfl⟩
   rw [HS.out]
   obtain ⟨n0, n1, n2, n3, n4, n5⟩ := cells6 R1.out
   go_wp2_with fail
   refine (HSN.out _ HB0.out).mono ?_
   rintro e w2 ⟨rfl, hb2⟩
   have HB2 := Lib.hid (HB0.out.trans (hb2.mono HB0.out.size))
   clear hb2 n0 n1 n2 n3 n4 n5
   go_wp2
   go_ret
   exact ⟨rfl, HB2.out⟩
 have htt : totN m n ≤ 1048576 := by have := HZB.out; omega
 have hsz : sizN n ≤ 1048576 := by rw [← totN_siz hn]; exact htt
 rw [szR_pos (by omega)] at HSN
 obtain ⟨z2, hz2⟩ : ∃ z2 : Int, z2 = z - (totN m n : Nat) := ⟨_, rfl⟩
 rw [← hz2] at HSN
 have hz20 : ¬ z2 < 0 := by omega
 clear hz2 hbig
 obtain ⟨x, hx⟩ : ∃ x, rgN l n a = x := ⟨_, rfl⟩
 obtain ⟨y, hy⟩ : ∃ y, rgY l n a = y := ⟨_, rfl⟩
 obtain ⟨ok, hok⟩ : ∃ ok, rgB l n a = ok := ⟨_, rfl⟩
 have hysz : sizN y ≤ 1048576 := by
  rw [← hy]
  unfold rgY fNod
  split
  · split
    · cases hq : n.ptrs[atF l a.toNat]? with
      | none => exact Nat.le_trans (by decide : sizN noneNd ≤ 0) (Nat.zero_le _)
      | some p =>
       obtain ⟨hlt, rfl⟩ := List.getElem?_eq_some_iff.1 hq
       have h1 := sizL_at hlt
       have h2 := sizN_eq n
       show sizN n.ptrs[atF l a.toNat] ≤ 1048576
       omega
    · exact Nat.le_trans (by decide : sizN noneNd ≤ 0) (Nat.zero_le _)
  · exact Nat.le_trans (by decide : sizN noneNd ≤ 0) (Nat.zero_le _)
 have HFL := Lib.hid (fun (W : World) (hW : Below w.heap.size w W) => toFieldS_any A cap l W (hfl.below hW) HLL.out)
 have HTN := Lib.hid (fun (W : World) (hW : Below w.heap.size w W) => toNO_any m n h W Any (hn.below hW) (by omega))
 have HSA := Lib.hid (fun (W : World) (hW : Below w.heap.size w W) (S : Nat → Prop) (A : Option Addr) (c : Nat) (g : Hd) (_ : l.length ≤ c) (hf : Flds W A l) (hg : NdAt W S m n g) => specRecordGet_a A c l m n g W S (by have := hW.size; omega) hf (by have := HLB.out; omega) hg (by omega) a)
 have HIA := Lib.hid (fun (W : World) (hW : Below w.heap.size w W) (S : Nat → Prop) (A : Option Addr) (c : Nat) (g : Hd) (hc : l.length ≤ c) (hf : Flds W A l) (hg : NdAt W S m n g) => implRecordGet_a A c l m n g W S (ht.below hW h1w) (by have := hW.size; omega) hf (by have := HLB.out; omega) hc hg (by omega) a)
 rw [hx, hy, hok] at HSA HIA
 have HEV := Lib.hid (fun (W : World) (S S' : Nat → Prop) (g g' : Hd) (a : NdAt W S (m + 1) y g) (b : NdAt W S' (m + 1) y g') => eqVal_a (m + 1) x y g g' W S S' a b (by rw [totN_siz a]; omega))
 have HEN := Lib.hid (fun (W : World) (S S' : Nat → Prop) (g g' : Hd) (a : NdAt W S m n g) (b : NdAt W S' m n g') => eqN_any m n g g' W S S' a b (by rw [totN_siz a]; omega))
 have HMN := Lib.hid (fun (g : Hd) (bs : List Nat) (W : World) (a : OwN W m n g bs) (b : bs.Nodup) => markNode_any m n g bs W (1 + 3 * l.length) a b (by omega) (by have := HLB.out; omega))
 have HMV := Lib.hid (fun (g : Hd) (bs : List Nat) (W : World) (a : OwN W (m + 1) y g bs) (b : bs.Nodup) => markVal_a (m + 1) x y g bs W 1 a b (by omega) (by omega))
 have HHV := Lib.hid (fun (g : Hd) (bs : List Nat) (W : World) (S : Nat → Prop) (q1 q2 : Nat) (p i : List Nd) (a : NdAt W S (m + 1) (.mk y.kind y.data p y.size y.count i) g) (hp : HelS (m + 1) p 1 q1) (hi : HelS (m + 1) i q1 q2) (hq : q2 ≤ 200000000) => heldVal_a (m + 1) x (.mk y.kind y.data p y.size y.count i) g W S 1 q1 q2 a hp hi (by omega) hq)
 clear hx hy hok hysz htt hsz hn hfl ht h1w
 unfold ToP at HFL
 unfold NewO at HTN
 unfold NewVal at HSA HIA
 unfold MkN at HMN HMV
 go_enter Tryz.func3, Tryz.ntmps3
 go_wp2_with fail
 refine (szFieldS_any A l.length cap 1048576 _ HM.out (by decide) (by decide)).mono ?_
 rintro e w1 ⟨rfl, rfl⟩
 rw [HS.out]
 obtain ⟨n0, n1, n2, n3, n4, n5⟩ := cells6 R1.out
 go_wp2_with fail
 clear n0 n1 n2 n3 n4 n5
 generalize w.alloc (.cells #[.int .i64 n.kind, .string n.data, .slice h.A n.ptrs.length h.a, .int .i64 n.size, .int .i64 n.count, .slice h.B n.items.length h.b] 25) = W at *
 refine (HSN.out _ HB0.out).mono ?_
 rintro e w2 ⟨rfl, hb2⟩
 have HB2 := Lib.hid (HB0.out.trans (hb2.mono HB0.out.size))
 have Y1 := Lib.hid ((hb2.block _ (row_lt R1.out)).trans R1.out)
 clear hb2 HSN HS
 go_upto_region 8 with fail
 go_cut [8, 9] (fun s8 s9 wx => ∃ (vb : Nat) (hy : Hd) (bs : List Nat), s8 = .pointer (some ⟨vb, 0, none⟩) ∧ s9 = .bool ok ∧ Hid (ValO (m + 1) x y w2.heap.size wx vb hy bs) ∧ Hid (Below w2.heap.size w2 wx))
 case first =>
  have HDR : Hid (Below w2.heap.size w2 w2.drew) := Lib.hid ⟨rfl, rfl, rfl, Nat.le_refl _, fun _ _ => rfl⟩
  refine wp_region_held_drew (S := (fun V => V.heap[w.heap.size]? = some (.cells #[.int .i64 n.kind, .string n.data, .slice h.A n.ptrs.length h.a, .int .i64 n.size, .int .i64 n.count, .slice h.B n.items.length h.b] 25 (0, 0)) ∧ V.heap[w.heap.size]? = some (.cells #[.int .i64 n.kind, .string n.data, .slice h.A n.ptrs.length h.a, .int .i64 n.size, .int .i64 n.count, .slice h.B n.items.length h.b] 25 (0, 0)))) (by kernel_rfl) ?_ (fun hH0 => ?_)
  · exact ⟨Y1.out, Y1.out⟩
  have hC := HDR.out
  have hHo := hH0
  clear hH0
  have u0 := Y1.out
  have u1 := Y1.out
  refine wpAnyH_take (i := 0) (v := .slice A l.length cap) rfl (by kernel_rfl) (by kernel_rfl) (by kernel_rfl) (fun _ _ _ h => h) (Or.inl ⟨by rfl, ?_⟩) (by assumption) ?_
  · intro w hSw
    obtain ⟨t0, t1, t2, t3, t4, t5⟩ := cells6 hSw.2
    go_simp
  try simp only [List.getElem_toArray, List.getElem_cons_succ, List.getElem_cons_zero, Act.put, List.setIfInBounds_toArray, List.set_cons_zero, List.set_cons_succ]
  refine wpAnyH_take (i := 2) (v := .agg #[.int .i64 n.kind, .string n.data, .slice h.A n.ptrs.length h.a, .int .i64 n.size, .int .i64 n.count, .slice h.B n.items.length h.b]) rfl (by kernel_rfl) (by kernel_rfl) (by kernel_rfl) (fun _ _ _ h => h) (Or.inl ⟨by rfl, ?_⟩) (by assumption) ?_
  · intro w hSw
    obtain ⟨t0, t1, t2, t3, t4, t5⟩ := cells6 hSw.2
    go_simp
  try simp only [List.getElem_toArray, List.getElem_cons_succ, List.getElem_cons_zero, Act.put, List.setIfInBounds_toArray, List.set_cons_zero, List.set_cons_succ]
  refine wpAnyH_take (i := 4) (v := .int .i64 a) rfl (by kernel_rfl) (by kernel_rfl) (by kernel_rfl) (fun _ _ _ h => h) (Or.inl ⟨by rfl, ?_⟩) (by assumption) ?_
  · intro w hSw
    obtain ⟨t0, t1, t2, t3, t4, t5⟩ := cells6 hSw.2
    go_simp
  try simp only [List.getElem_toArray, List.getElem_cons_succ, List.getElem_cons_zero, Act.put, List.setIfInBounds_toArray, List.set_cons_zero, List.set_cons_succ]
  refine wpAnyH_ready (rs := [1, 9]) (by kernel_rfl) (by simp) ?_
  refine AllReadyH.cons rfl (fun K hK => ?_) (AllReadyH.cons rfl (fun K hK => ?_) AllReadyH.nil)
  · go_simp
    go_at_call 8
    refine (HFL.out _ (HB2.out.trans (hC.mono HB2.out.size))).mono ?_
    rintro e w30 ⟨g4, arr4, rfl, -, hr4, -, ha4, hb3⟩
    have hf4 := farr_flds hr4 ha4
    clear hr4 ha4
    have hC' := hC.trans (hb3.mono hC.size)
    have vu0 := (hb3.block _ (row_lt u0)).trans u0
    have vu1 := (hb3.block _ (row_lt u1)).trans u1
    clear u0 u1
    have u0 := vu0
    clear vu0
    have u1 := vu1
    clear vu1
    clear hb3 hC
    go_wp2_with fail
    refine hK.out _ _ ⟨u0, u1⟩ (fun hHn => ?_)
    clear hK K hHo
    have hHo := hHn
    clear hHn
    try simp only [List.getElem_toArray, List.getElem_cons_succ, List.getElem_cons_zero, Act.put, List.setIfInBounds_toArray, List.set_cons_zero, List.set_cons_succ]
    have hC := hC'
    clear hC'
    refine wpAnyH_ready (rs := [3, 9]) (by kernel_rfl) (by simp) ?_
    refine AllReadyH.cons rfl (fun K hK => ?_) (AllReadyH.cons rfl (fun K hK => ?_) AllReadyH.nil)
    · go_simp
      go_at_call 9
      refine (HTN.out _ (HB2.out.trans (hC.mono HB2.out.size))).mono ?_
      rintro e w31 ⟨g2, bs2, rfl, ho2, -, -, hb3⟩
      have hC' := hC.trans (hb3.mono hC.size)
      have vu0 := (hb3.block _ (row_lt u0)).trans u0
      have vu1 := (hb3.block _ (row_lt u1)).trans u1
      have vhf4 := hf4.below hb3
      clear u0 u1 hf4
      have u0 := vu0
      clear vu0
      have u1 := vu1
      clear vu1
      have hf4 := vhf4
      clear vhf4
      clear hb3 hC
      go_wp2_with fail
      refine hK.out _ _ ⟨u0, u1⟩ (fun hHn => ?_)
      clear hK K hHo
      have hHo := hHn
      clear hHn
      try simp only [List.getElem_toArray, List.getElem_cons_succ, List.getElem_cons_zero, Act.put, List.setIfInBounds_toArray, List.set_cons_zero, List.set_cons_succ]
      have hC := hC'
      clear hC'
      refine wpAnyH_ready (rs := [5, 9]) (by kernel_rfl) (by simp) ?_
      refine AllReadyH.cons rfl (fun K hK => ?_) (AllReadyH.cons rfl (fun K hK => ?_) AllReadyH.nil)
      · go_simp
        go_at_call 7
        refine (HSA.out _ (HB2.out.trans (hC.mono HB2.out.size)) _ (some ⟨g4, 0, none⟩) l.length g2 (Nat.le_refl _) hf4 ho2.nd).mono ?_
        rintro e w32 ⟨hy, bs, rfl, hov, hnd, hg, hb3⟩
        clear ho2 hf4
        have hC' := hC.trans (hb3.mono hC.size)
        have hgs : w2.heap.size ≤ w31.heap.size := hC.size
        have hlt := fun b hb => (hov.lt b hb).1
        have vu0 := (hb3.block _ (row_lt u0)).trans u0
        have vu1 := (hb3.block _ (row_lt u1)).trans u1
        clear u0 u1
        have u0 := vu0
        clear vu0
        have u1 := vu1
        clear vu1
        clear hb3 hC
        go_wp2_with fail
        refine hK.out _ _ ⟨u0, u1⟩ (fun hHn => ?_)
        clear hK K hHo
        have hHo := hHn
        clear hHn
        try simp only [List.getElem_toArray, List.getElem_cons_succ, List.getElem_cons_zero, Act.put, List.setIfInBounds_toArray, List.set_cons_zero, List.set_cons_succ]
        have hC := hC'
        clear hC'
        refine wpAnyH_take (i := 6) (v := ?_) rfl (by kernel_rfl) (by kernel_rfl) (by kernel_rfl) (fun _ _ _ h => h) (Or.inl ⟨by rfl, ?_⟩) (by assumption) ?_
        rotate_left
        · intro w hSw
          (try dsimp only at hSw)
          go_simp
          try with_reducible rfl
        try simp only [List.getElem_toArray, List.getElem_cons_succ, List.getElem_cons_zero, Act.put, List.setIfInBounds_toArray, List.set_cons_zero, List.set_cons_succ]
        refine wpAnyH_take (i := 7) (v := ?_) rfl (by kernel_rfl) (by kernel_rfl) (by kernel_rfl) (fun _ _ _ h => h) (Or.inl ⟨by rfl, ?_⟩) (by assumption) ?_
        rotate_left
        · intro w hSw
          (try dsimp only at hSw)
          go_simp
          try with_reducible rfl
        try simp only [List.getElem_toArray, List.getElem_cons_succ, List.getElem_cons_zero, Act.put, List.setIfInBounds_toArray, List.set_cons_zero, List.set_cons_succ]
        refine wpAnyH_take (i := 8) (v := ?_) rfl (by kernel_rfl) (by kernel_rfl) (by kernel_rfl) (fun _ _ _ h => h) (Or.inl ⟨by rfl, ?_⟩) (by assumption) ?_
        rotate_left
        · intro w hSw
          (try dsimp only at hSw)
          go_simp
          try with_reducible rfl
        try simp only [List.getElem_toArray, List.getElem_cons_succ, List.getElem_cons_zero, Act.put, List.setIfInBounds_toArray, List.set_cons_zero, List.set_cons_succ]
        refine wpAnyH_ready (rs := [9]) (by kernel_rfl) (by simp) ?_
        refine AllReadyH.cons rfl (fun K hK => ?_) AllReadyH.nil
        go_simp
        have hba : Below w32.heap.size w32 ((w32.alloc (.cells #[.int .i64 0, .int .i64 0, .string { data := #[] }, .slice none 0 0, .int .i64 0, .int .i64 0, .slice none 0 0] valT))) := (Below.refl w32.heap.size w32).alloc (Nat.le_refl _) (.cells #[.int .i64 0, .int .i64 0, .string { data := #[] }, .slice none 0 0, .int .i64 0, .int .i64 0, .slice none 0 0] valT)
        have hC' : Below w2.heap.size w2 ((w32.alloc (.cells #[.int .i64 0, .int .i64 0, .string { data := #[] }, .slice none 0 0, .int .i64 0, .int .i64 0, .slice none 0 0] valT))) := hC.trans (hba.mono hC.size)
        have ub : ((w32.alloc (.cells #[.int .i64 0, .int .i64 0, .string { data := #[] }, .slice none 0 0, .int .i64 0, .int .i64 0, .slice none 0 0] valT))).heap[w32.heap.size]? = some (.cells #[.int .i64 0, .int .i64 0, .string { data := #[] }, .slice none 0 0, .int .i64 0, .int .i64 0, .slice none 0 0] valT (0, 0)) := heap_alloc_new w32 (.cells #[.int .i64 0, .int .i64 0, .string { data := #[] }, .slice none 0 0, .int .i64 0, .int .i64 0, .slice none 0 0] valT)
        obtain ⟨vb, hvbe⟩ : ∃ vb, vb = w32.heap.size := ⟨_, rfl⟩
        have hvb : w2.heap.size ≤ vb := by rw [hvbe]; exact hC.size
        have vu0 := (hba.block _ (row_lt u0)).trans u0
        have vu1 := (hba.block _ (row_lt u1)).trans u1
        have vhov := hov.below hba
        clear u0 u1 hov
        have u0 := vu0
        clear vu0
        have u1 := vu1
        clear vu1
        have hov := vhov
        clear vhov
        have hfar : ∀ b ∈ bs, w2.heap.size ≤ b ∧ b ≠ vb := fun b hb => ⟨by have := hg b hb; have := hgs; omega, by have := hlt b hb; omega⟩
        clear hba hC
        rw [← hvbe] at ub ⊢
        clear hvbe
        generalize ((w32.alloc (.cells #[.int .i64 0, .int .i64 0, .string { data := #[] }, .slice none 0 0, .int .i64 0, .int .i64 0, .slice none 0 0] valT))) = wa at *
        refine hK.out _ _ ⟨u0, u1⟩ (fun hHn => ?_)
        clear hK K hHo
        have hHo := hHn
        clear hHn
        try simp only [List.getElem_toArray, List.getElem_cons_succ, List.getElem_cons_zero, Act.put, List.setIfInBounds_toArray, List.set_cons_zero, List.set_cons_succ]
        have hC := hC'
        clear hC'
        refine wpAnyH_ready (rs := [10]) (by kernel_rfl) (by simp) ?_
        refine AllReadyH.cons rfl (fun K hK => ?_) AllReadyH.nil
        obtain ⟨z0, z1, z2', z3, z4, z5, z6⟩ := cellsV ub
        have zf := row_free ub
        go_simp
        obtain ⟨wf, hwf, hrw, hbf, hkf⟩ := finV (w := w2) (R := w2.heap.size) (.int .i64 x) (.int .i64 y.kind) (.string y.data) (.slice hy.A y.ptrs.length hy.a) (.int .i64 y.size) (.int .i64 y.count) (.slice hy.B y.items.length hy.b) ub hC hvb
        have HWF := Lib.hid hwf
        have HVO : Hid (ValO (m + 1) x y w2.heap.size wf vb hy bs) := Lib.hid ⟨hrw, hov.frame (fun b hb => hkf b (hfar b hb).2), hnd, hfar, hvb⟩
        have HBF := Lib.hid hbf
        have x0 := (hbf.block _ (row_lt Y1.out)).trans Y1.out
        have x1 := (hbf.block _ (row_lt Y1.out)).trans Y1.out
        clear hwf z0 z1 z2' z3 z4 z5 z6 zf ub hC hkf hrw hbf hov hfar hnd hg hlt hgs hvb
        rw [HWF.out]
        refine hK.out _ _ ⟨x0, x1⟩ (fun hHn => ?_)
        clear HWF x0 x1
        clear hK K hHo
        have hHo := hHn
        clear hHn
        try simp only [List.getElem_toArray, List.getElem_cons_succ, List.getElem_cons_zero, Act.put, List.setIfInBounds_toArray, List.set_cons_zero, List.set_cons_succ]
        refine wpAnyH_take (i := 11) (v := ?_) rfl (by kernel_rfl) (by kernel_rfl) (by kernel_rfl) (fun _ _ _ h => h) (Or.inl ⟨by rfl, ?_⟩) (by assumption) ?_
        rotate_left
        · intro w hSw
          (try dsimp only at hSw)
          go_simp
          try with_reducible rfl
        try simp only [List.getElem_toArray, List.getElem_cons_succ, List.getElem_cons_zero, Act.put, List.setIfInBounds_toArray, List.set_cons_zero, List.set_cons_succ]
        refine wpAnyH_done (by kernel_rfl) ?_ _
        clear hHo
        go_wp2_with fail
        go_meet
        case rel => exact ⟨vb, hy, bs, rfl, rfl, HVO, HBF⟩
      · go_simp
        have hba : Below w31.heap.size w31 ((w31.alloc (.cells #[.int .i64 0, .int .i64 0, .string { data := #[] }, .slice none 0 0, .int .i64 0, .int .i64 0, .slice none 0 0] valT))) := (Below.refl w31.heap.size w31).alloc (Nat.le_refl _) (.cells #[.int .i64 0, .int .i64 0, .string { data := #[] }, .slice none 0 0, .int .i64 0, .int .i64 0, .slice none 0 0] valT)
        have hC' : Below w2.heap.size w2 ((w31.alloc (.cells #[.int .i64 0, .int .i64 0, .string { data := #[] }, .slice none 0 0, .int .i64 0, .int .i64 0, .slice none 0 0] valT))) := hC.trans (hba.mono hC.size)
        have ub : ((w31.alloc (.cells #[.int .i64 0, .int .i64 0, .string { data := #[] }, .slice none 0 0, .int .i64 0, .int .i64 0, .slice none 0 0] valT))).heap[w31.heap.size]? = some (.cells #[.int .i64 0, .int .i64 0, .string { data := #[] }, .slice none 0 0, .int .i64 0, .int .i64 0, .slice none 0 0] valT (0, 0)) := heap_alloc_new w31 (.cells #[.int .i64 0, .int .i64 0, .string { data := #[] }, .slice none 0 0, .int .i64 0, .int .i64 0, .slice none 0 0] valT)
        obtain ⟨vb, hvbe⟩ : ∃ vb, vb = w31.heap.size := ⟨_, rfl⟩
        have hvb : w2.heap.size ≤ vb := by rw [hvbe]; exact hC.size
        have vu0 := (hba.block _ (row_lt u0)).trans u0
        have vu1 := (hba.block _ (row_lt u1)).trans u1
        have vhf4 := hf4.below hba
        have vho2 := ho2.below hba
        clear u0 u1 hf4 ho2
        have u0 := vu0
        clear vu0
        have u1 := vu1
        clear vu1
        have hf4 := vhf4
        clear vhf4
        have ho2 := vho2
        clear vho2
        clear hba hC
        rw [← hvbe] at ub ⊢
        clear hvbe
        generalize ((w31.alloc (.cells #[.int .i64 0, .int .i64 0, .string { data := #[] }, .slice none 0 0, .int .i64 0, .int .i64 0, .slice none 0 0] valT))) = wa at *
        refine hK.out _ _ ⟨u0, u1⟩ (fun hHn => ?_)
        clear hK K hHo
        have hHo := hHn
        clear hHn
        try simp only [List.getElem_toArray, List.getElem_cons_succ, List.getElem_cons_zero, Act.put, List.setIfInBounds_toArray, List.set_cons_zero, List.set_cons_succ]
        have hC := hC'
        clear hC'
        refine wpAnyH_ready (rs := [5]) (by kernel_rfl) (by simp) ?_
        refine AllReadyH.cons rfl (fun K hK => ?_) AllReadyH.nil
        go_simp
        go_at_call 7
        refine (HSA.out _ (HB2.out.trans (hC.mono HB2.out.size)) _ (some ⟨g4, 0, none⟩) l.length g2 (Nat.le_refl _) hf4 ho2.nd).mono ?_
        rintro e w32 ⟨hy, bs, rfl, hov, hnd, hg, hb3⟩
        clear ho2 hf4
        have hC' := hC.trans (hb3.mono hC.size)
        have hgs : w2.heap.size ≤ wa.heap.size := hC.size
        have hlt := fun b hb => (hov.lt b hb).1
        have hvl := row_lt ub
        have hfar : ∀ b ∈ bs, w2.heap.size ≤ b ∧ b ≠ vb := fun b hb => ⟨by have := hg b hb; omega, by have := hg b hb; omega⟩
        have vu0 := (hb3.block _ (row_lt u0)).trans u0
        have vu1 := (hb3.block _ (row_lt u1)).trans u1
        have vub := (hb3.block _ (row_lt ub)).trans ub
        clear u0 u1 ub
        have u0 := vu0
        clear vu0
        have u1 := vu1
        clear vu1
        have ub := vub
        clear vub
        clear hb3 hC
        go_wp2_with fail
        refine hK.out _ _ ⟨u0, u1⟩ (fun hHn => ?_)
        clear hK K hHo
        have hHo := hHn
        clear hHn
        try simp only [List.getElem_toArray, List.getElem_cons_succ, List.getElem_cons_zero, Act.put, List.setIfInBounds_toArray, List.set_cons_zero, List.set_cons_succ]
        have hC := hC'
        clear hC'
        refine wpAnyH_take (i := 6) (v := ?_) rfl (by kernel_rfl) (by kernel_rfl) (by kernel_rfl) (fun _ _ _ h => h) (Or.inl ⟨by rfl, ?_⟩) (by assumption) ?_
        rotate_left
        · intro w hSw
          (try dsimp only at hSw)
          go_simp
          try with_reducible rfl
        try simp only [List.getElem_toArray, List.getElem_cons_succ, List.getElem_cons_zero, Act.put, List.setIfInBounds_toArray, List.set_cons_zero, List.set_cons_succ]
        refine wpAnyH_take (i := 7) (v := ?_) rfl (by kernel_rfl) (by kernel_rfl) (by kernel_rfl) (fun _ _ _ h => h) (Or.inl ⟨by rfl, ?_⟩) (by assumption) ?_
        rotate_left
        · intro w hSw
          (try dsimp only at hSw)
          go_simp
          try with_reducible rfl
        try simp only [List.getElem_toArray, List.getElem_cons_succ, List.getElem_cons_zero, Act.put, List.setIfInBounds_toArray, List.set_cons_zero, List.set_cons_succ]
        refine wpAnyH_take (i := 8) (v := ?_) rfl (by kernel_rfl) (by kernel_rfl) (by kernel_rfl) (fun _ _ _ h => h) (Or.inl ⟨by rfl, ?_⟩) (by assumption) ?_
        rotate_left
        · intro w hSw
          (try dsimp only at hSw)
          go_simp
          try with_reducible rfl
        try simp only [List.getElem_toArray, List.getElem_cons_succ, List.getElem_cons_zero, Act.put, List.setIfInBounds_toArray, List.set_cons_zero, List.set_cons_succ]
        refine wpAnyH_ready (rs := [10]) (by kernel_rfl) (by simp) ?_
        refine AllReadyH.cons rfl (fun K hK => ?_) AllReadyH.nil
        obtain ⟨z0, z1, z2', z3, z4, z5, z6⟩ := cellsV ub
        have zf := row_free ub
        go_simp
        obtain ⟨wf, hwf, hrw, hbf, hkf⟩ := finV (w := w2) (R := w2.heap.size) (.int .i64 x) (.int .i64 y.kind) (.string y.data) (.slice hy.A y.ptrs.length hy.a) (.int .i64 y.size) (.int .i64 y.count) (.slice hy.B y.items.length hy.b) ub hC hvb
        have HWF := Lib.hid hwf
        have HVO : Hid (ValO (m + 1) x y w2.heap.size wf vb hy bs) := Lib.hid ⟨hrw, hov.frame (fun b hb => hkf b (hfar b hb).2), hnd, hfar, hvb⟩
        have HBF := Lib.hid hbf
        have x0 := (hbf.block _ (row_lt Y1.out)).trans Y1.out
        have x1 := (hbf.block _ (row_lt Y1.out)).trans Y1.out
        clear hwf z0 z1 z2' z3 z4 z5 z6 zf ub hC hkf hrw hbf hov hfar hnd hg hlt hgs hvb
        rw [HWF.out]
        refine hK.out _ _ ⟨x0, x1⟩ (fun hHn => ?_)
        clear HWF x0 x1
        clear hK K hHo
        have hHo := hHn
        clear hHn
        try simp only [List.getElem_toArray, List.getElem_cons_succ, List.getElem_cons_zero, Act.put, List.setIfInBounds_toArray, List.set_cons_zero, List.set_cons_succ]
        refine wpAnyH_take (i := 11) (v := ?_) rfl (by kernel_rfl) (by kernel_rfl) (by kernel_rfl) (fun _ _ _ h => h) (Or.inl ⟨by rfl, ?_⟩) (by assumption) ?_
        rotate_left
        · intro w hSw
          (try dsimp only at hSw)
          go_simp
          try with_reducible rfl
        try simp only [List.getElem_toArray, List.getElem_cons_succ, List.getElem_cons_zero, Act.put, List.setIfInBounds_toArray, List.set_cons_zero, List.set_cons_succ]
        refine wpAnyH_done (by kernel_rfl) ?_ _
        clear hHo
        go_wp2_with fail
        go_meet
        case rel => exact ⟨vb, hy, bs, rfl, rfl, HVO, HBF⟩
    · go_simp
      have hba : Below w30.heap.size w30 ((w30.alloc (.cells #[.int .i64 0, .int .i64 0, .string { data := #[] }, .slice none 0 0, .int .i64 0, .int .i64 0, .slice none 0 0] valT))) := (Below.refl w30.heap.size w30).alloc (Nat.le_refl _) (.cells #[.int .i64 0, .int .i64 0, .string { data := #[] }, .slice none 0 0, .int .i64 0, .int .i64 0, .slice none 0 0] valT)
      have hC' : Below w2.heap.size w2 ((w30.alloc (.cells #[.int .i64 0, .int .i64 0, .string { data := #[] }, .slice none 0 0, .int .i64 0, .int .i64 0, .slice none 0 0] valT))) := hC.trans (hba.mono hC.size)
      have ub : ((w30.alloc (.cells #[.int .i64 0, .int .i64 0, .string { data := #[] }, .slice none 0 0, .int .i64 0, .int .i64 0, .slice none 0 0] valT))).heap[w30.heap.size]? = some (.cells #[.int .i64 0, .int .i64 0, .string { data := #[] }, .slice none 0 0, .int .i64 0, .int .i64 0, .slice none 0 0] valT (0, 0)) := heap_alloc_new w30 (.cells #[.int .i64 0, .int .i64 0, .string { data := #[] }, .slice none 0 0, .int .i64 0, .int .i64 0, .slice none 0 0] valT)
      obtain ⟨vb, hvbe⟩ : ∃ vb, vb = w30.heap.size := ⟨_, rfl⟩
      have hvb : w2.heap.size ≤ vb := by rw [hvbe]; exact hC.size
      have vu0 := (hba.block _ (row_lt u0)).trans u0
      have vu1 := (hba.block _ (row_lt u1)).trans u1
      have vhf4 := hf4.below hba
      clear u0 u1 hf4
      have u0 := vu0
      clear vu0
      have u1 := vu1
      clear vu1
      have hf4 := vhf4
      clear vhf4
      clear hba hC
      rw [← hvbe] at ub ⊢
      clear hvbe
      generalize ((w30.alloc (.cells #[.int .i64 0, .int .i64 0, .string { data := #[] }, .slice none 0 0, .int .i64 0, .int .i64 0, .slice none 0 0] valT))) = wa at *
      refine hK.out _ _ ⟨u0, u1⟩ (fun hHn => ?_)
      clear hK K hHo
      have hHo := hHn
      clear hHn
      try simp only [List.getElem_toArray, List.getElem_cons_succ, List.getElem_cons_zero, Act.put, List.setIfInBounds_toArray, List.set_cons_zero, List.set_cons_succ]
      have hC := hC'
      clear hC'
      refine wpAnyH_ready (rs := [3]) (by kernel_rfl) (by simp) ?_
      refine AllReadyH.cons rfl (fun K hK => ?_) AllReadyH.nil
      go_simp
      go_at_call 9
      refine (HTN.out _ (HB2.out.trans (hC.mono HB2.out.size))).mono ?_
      rintro e w31 ⟨g2, bs2, rfl, ho2, -, -, hb3⟩
      have hC' := hC.trans (hb3.mono hC.size)
      have vu0 := (hb3.block _ (row_lt u0)).trans u0
      have vu1 := (hb3.block _ (row_lt u1)).trans u1
      have vhf4 := hf4.below hb3
      have vub := (hb3.block _ (row_lt ub)).trans ub
      clear u0 u1 hf4 ub
      have u0 := vu0
      clear vu0
      have u1 := vu1
      clear vu1
      have hf4 := vhf4
      clear vhf4
      have ub := vub
      clear vub
      clear hb3 hC
      go_wp2_with fail
      refine hK.out _ _ ⟨u0, u1⟩ (fun hHn => ?_)
      clear hK K hHo
      have hHo := hHn
      clear hHn
      try simp only [List.getElem_toArray, List.getElem_cons_succ, List.getElem_cons_zero, Act.put, List.setIfInBounds_toArray, List.set_cons_zero, List.set_cons_succ]
      have hC := hC'
      clear hC'
      refine wpAnyH_ready (rs := [5]) (by kernel_rfl) (by simp) ?_
      refine AllReadyH.cons rfl (fun K hK => ?_) AllReadyH.nil
      go_simp
      go_at_call 7
      refine (HSA.out _ (HB2.out.trans (hC.mono HB2.out.size)) _ (some ⟨g4, 0, none⟩) l.length g2 (Nat.le_refl _) hf4 ho2.nd).mono ?_
      rintro e w32 ⟨hy, bs, rfl, hov, hnd, hg, hb3⟩
      clear ho2 hf4
      have hC' := hC.trans (hb3.mono hC.size)
      have hgs : w2.heap.size ≤ w31.heap.size := hC.size
      have hlt := fun b hb => (hov.lt b hb).1
      have hvl := row_lt ub
      have hfar : ∀ b ∈ bs, w2.heap.size ≤ b ∧ b ≠ vb := fun b hb => ⟨by have := hg b hb; omega, by have := hg b hb; omega⟩
      have vu0 := (hb3.block _ (row_lt u0)).trans u0
      have vu1 := (hb3.block _ (row_lt u1)).trans u1
      have vub := (hb3.block _ (row_lt ub)).trans ub
      clear u0 u1 ub
      have u0 := vu0
      clear vu0
      have u1 := vu1
      clear vu1
      have ub := vub
      clear vub
      clear hb3 hC
      go_wp2_with fail
      refine hK.out _ _ ⟨u0, u1⟩ (fun hHn => ?_)
      clear hK K hHo
      have hHo := hHn
      clear hHn
      try simp only [List.getElem_toArray, List.getElem_cons_succ, List.getElem_cons_zero, Act.put, List.setIfInBounds_toArray, List.set_cons_zero, List.set_cons_succ]
      have hC := hC'
      clear hC'
      refine wpAnyH_take (i := 6) (v := ?_) rfl (by kernel_rfl) (by kernel_rfl) (by kernel_rfl) (fun _ _ _ h => h) (Or.inl ⟨by rfl, ?_⟩) (by assumption) ?_
      rotate_left
      · intro w hSw
        (try dsimp only at hSw)
        go_simp
        try with_reducible rfl
      try simp only [List.getElem_toArray, List.getElem_cons_succ, List.getElem_cons_zero, Act.put, List.setIfInBounds_toArray, List.set_cons_zero, List.set_cons_succ]
      refine wpAnyH_take (i := 7) (v := ?_) rfl (by kernel_rfl) (by kernel_rfl) (by kernel_rfl) (fun _ _ _ h => h) (Or.inl ⟨by rfl, ?_⟩) (by assumption) ?_
      rotate_left
      · intro w hSw
        (try dsimp only at hSw)
        go_simp
        try with_reducible rfl
      try simp only [List.getElem_toArray, List.getElem_cons_succ, List.getElem_cons_zero, Act.put, List.setIfInBounds_toArray, List.set_cons_zero, List.set_cons_succ]
      refine wpAnyH_take (i := 8) (v := ?_) rfl (by kernel_rfl) (by kernel_rfl) (by kernel_rfl) (fun _ _ _ h => h) (Or.inl ⟨by rfl, ?_⟩) (by assumption) ?_
      rotate_left
      · intro w hSw
        (try dsimp only at hSw)
        go_simp
        try with_reducible rfl
      try simp only [List.getElem_toArray, List.getElem_cons_succ, List.getElem_cons_zero, Act.put, List.setIfInBounds_toArray, List.set_cons_zero, List.set_cons_succ]
      refine wpAnyH_ready (rs := [10]) (by kernel_rfl) (by simp) ?_
      refine AllReadyH.cons rfl (fun K hK => ?_) AllReadyH.nil
      obtain ⟨z0, z1, z2', z3, z4, z5, z6⟩ := cellsV ub
      have zf := row_free ub
      go_simp
      obtain ⟨wf, hwf, hrw, hbf, hkf⟩ := finV (w := w2) (R := w2.heap.size) (.int .i64 x) (.int .i64 y.kind) (.string y.data) (.slice hy.A y.ptrs.length hy.a) (.int .i64 y.size) (.int .i64 y.count) (.slice hy.B y.items.length hy.b) ub hC hvb
      have HWF := Lib.hid hwf
      have HVO : Hid (ValO (m + 1) x y w2.heap.size wf vb hy bs) := Lib.hid ⟨hrw, hov.frame (fun b hb => hkf b (hfar b hb).2), hnd, hfar, hvb⟩
      have HBF := Lib.hid hbf
      have x0 := (hbf.block _ (row_lt Y1.out)).trans Y1.out
      have x1 := (hbf.block _ (row_lt Y1.out)).trans Y1.out
      clear hwf z0 z1 z2' z3 z4 z5 z6 zf ub hC hkf hrw hbf hov hfar hnd hg hlt hgs hvb
      rw [HWF.out]
      refine hK.out _ _ ⟨x0, x1⟩ (fun hHn => ?_)
      clear HWF x0 x1
      clear hK K hHo
      have hHo := hHn
      clear hHn
      try simp only [List.getElem_toArray, List.getElem_cons_succ, List.getElem_cons_zero, Act.put, List.setIfInBounds_toArray, List.set_cons_zero, List.set_cons_succ]
      refine wpAnyH_take (i := 11) (v := ?_) rfl (by kernel_rfl) (by kernel_rfl) (by kernel_rfl) (fun _ _ _ h => h) (Or.inl ⟨by rfl, ?_⟩) (by assumption) ?_
      rotate_left
      · intro w hSw
        (try dsimp only at hSw)
        go_simp
        try with_reducible rfl
      try simp only [List.getElem_toArray, List.getElem_cons_succ, List.getElem_cons_zero, Act.put, List.setIfInBounds_toArray, List.set_cons_zero, List.set_cons_succ]
      refine wpAnyH_done (by kernel_rfl) ?_ _
      clear hHo
      go_wp2_with fail
      go_meet
      case rel => exact ⟨vb, hy, bs, rfl, rfl, HVO, HBF⟩
  · go_simp
    have hba : Below w2.heap.size w2.drew ((w2.alloc (.cells #[.int .i64 0, .int .i64 0, .string { data := #[] }, .slice none 0 0, .int .i64 0, .int .i64 0, .slice none 0 0] valT)).drew) := (Below.refl w2.drew.heap.size w2.drew).alloc (Nat.le_refl _) (.cells #[.int .i64 0, .int .i64 0, .string { data := #[] }, .slice none 0 0, .int .i64 0, .int .i64 0, .slice none 0 0] valT)
    have hC' : Below w2.heap.size w2 ((w2.alloc (.cells #[.int .i64 0, .int .i64 0, .string { data := #[] }, .slice none 0 0, .int .i64 0, .int .i64 0, .slice none 0 0] valT)).drew) := hC.trans (hba.mono hC.size)
    have ub : ((w2.alloc (.cells #[.int .i64 0, .int .i64 0, .string { data := #[] }, .slice none 0 0, .int .i64 0, .int .i64 0, .slice none 0 0] valT)).drew).heap[w2.heap.size]? = some (.cells #[.int .i64 0, .int .i64 0, .string { data := #[] }, .slice none 0 0, .int .i64 0, .int .i64 0, .slice none 0 0] valT (0, 0)) := heap_alloc_new w2.drew (.cells #[.int .i64 0, .int .i64 0, .string { data := #[] }, .slice none 0 0, .int .i64 0, .int .i64 0, .slice none 0 0] valT)
    obtain ⟨vb, hvbe⟩ : ∃ vb, vb = w2.heap.size := ⟨_, rfl⟩
    have hvb : w2.heap.size ≤ vb := by rw [hvbe]; exact hC.size
    have vu0 := (hba.block _ (row_lt u0)).trans u0
    have vu1 := (hba.block _ (row_lt u1)).trans u1
    clear u0 u1
    have u0 := vu0
    clear vu0
    have u1 := vu1
    clear vu1
    clear hba hC
    rw [← hvbe] at ub ⊢
    clear hvbe
    generalize ((w2.alloc (.cells #[.int .i64 0, .int .i64 0, .string { data := #[] }, .slice none 0 0, .int .i64 0, .int .i64 0, .slice none 0 0] valT)).drew) = wa at *
    refine hK.out _ _ ⟨u0, u1⟩ (fun hHn => ?_)
    clear hK K hHo
    have hHo := hHn
    clear hHn
    try simp only [List.getElem_toArray, List.getElem_cons_succ, List.getElem_cons_zero, Act.put, List.setIfInBounds_toArray, List.set_cons_zero, List.set_cons_succ]
    have hC := hC'
    clear hC'
    refine wpAnyH_ready (rs := [1]) (by kernel_rfl) (by simp) ?_
    refine AllReadyH.cons rfl (fun K hK => ?_) AllReadyH.nil
    go_simp
    go_at_call 8
    refine (HFL.out _ (HB2.out.trans (hC.mono HB2.out.size))).mono ?_
    rintro e w30 ⟨g4, arr4, rfl, -, hr4, -, ha4, hb3⟩
    have hf4 := farr_flds hr4 ha4
    clear hr4 ha4
    have hC' := hC.trans (hb3.mono hC.size)
    have vu0 := (hb3.block _ (row_lt u0)).trans u0
    have vu1 := (hb3.block _ (row_lt u1)).trans u1
    have vub := (hb3.block _ (row_lt ub)).trans ub
    clear u0 u1 ub
    have u0 := vu0
    clear vu0
    have u1 := vu1
    clear vu1
    have ub := vub
    clear vub
    clear hb3 hC
    go_wp2_with fail
    refine hK.out _ _ ⟨u0, u1⟩ (fun hHn => ?_)
    clear hK K hHo
    have hHo := hHn
    clear hHn
    try simp only [List.getElem_toArray, List.getElem_cons_succ, List.getElem_cons_zero, Act.put, List.setIfInBounds_toArray, List.set_cons_zero, List.set_cons_succ]
    have hC := hC'
    clear hC'
    refine wpAnyH_ready (rs := [3]) (by kernel_rfl) (by simp) ?_
    refine AllReadyH.cons rfl (fun K hK => ?_) AllReadyH.nil
    go_simp
    go_at_call 9
    refine (HTN.out _ (HB2.out.trans (hC.mono HB2.out.size))).mono ?_
    rintro e w31 ⟨g2, bs2, rfl, ho2, -, -, hb3⟩
    have hC' := hC.trans (hb3.mono hC.size)
    have vu0 := (hb3.block _ (row_lt u0)).trans u0
    have vu1 := (hb3.block _ (row_lt u1)).trans u1
    have vub := (hb3.block _ (row_lt ub)).trans ub
    have vhf4 := hf4.below hb3
    clear u0 u1 ub hf4
    have u0 := vu0
    clear vu0
    have u1 := vu1
    clear vu1
    have ub := vub
    clear vub
    have hf4 := vhf4
    clear vhf4
    clear hb3 hC
    go_wp2_with fail
    refine hK.out _ _ ⟨u0, u1⟩ (fun hHn => ?_)
    clear hK K hHo
    have hHo := hHn
    clear hHn
    try simp only [List.getElem_toArray, List.getElem_cons_succ, List.getElem_cons_zero, Act.put, List.setIfInBounds_toArray, List.set_cons_zero, List.set_cons_succ]
    have hC := hC'
    clear hC'
    refine wpAnyH_ready (rs := [5]) (by kernel_rfl) (by simp) ?_
    refine AllReadyH.cons rfl (fun K hK => ?_) AllReadyH.nil
    go_simp
    go_at_call 7
    refine (HSA.out _ (HB2.out.trans (hC.mono HB2.out.size)) _ (some ⟨g4, 0, none⟩) l.length g2 (Nat.le_refl _) hf4 ho2.nd).mono ?_
    rintro e w32 ⟨hy, bs, rfl, hov, hnd, hg, hb3⟩
    clear ho2 hf4
    have hC' := hC.trans (hb3.mono hC.size)
    have hgs : w2.heap.size ≤ w31.heap.size := hC.size
    have hlt := fun b hb => (hov.lt b hb).1
    have hvl := row_lt ub
    have hfar : ∀ b ∈ bs, w2.heap.size ≤ b ∧ b ≠ vb := fun b hb => ⟨by have := hg b hb; omega, by have := hg b hb; omega⟩
    have vu0 := (hb3.block _ (row_lt u0)).trans u0
    have vu1 := (hb3.block _ (row_lt u1)).trans u1
    have vub := (hb3.block _ (row_lt ub)).trans ub
    clear u0 u1 ub
    have u0 := vu0
    clear vu0
    have u1 := vu1
    clear vu1
    have ub := vub
    clear vub
    clear hb3 hC
    go_wp2_with fail
    refine hK.out _ _ ⟨u0, u1⟩ (fun hHn => ?_)
    clear hK K hHo
    have hHo := hHn
    clear hHn
    try simp only [List.getElem_toArray, List.getElem_cons_succ, List.getElem_cons_zero, Act.put, List.setIfInBounds_toArray, List.set_cons_zero, List.set_cons_succ]
    have hC := hC'
    clear hC'
    refine wpAnyH_take (i := 6) (v := ?_) rfl (by kernel_rfl) (by kernel_rfl) (by kernel_rfl) (fun _ _ _ h => h) (Or.inl ⟨by rfl, ?_⟩) (by assumption) ?_
    rotate_left
    · intro w hSw
      (try dsimp only at hSw)
      go_simp
      try with_reducible rfl
    try simp only [List.getElem_toArray, List.getElem_cons_succ, List.getElem_cons_zero, Act.put, List.setIfInBounds_toArray, List.set_cons_zero, List.set_cons_succ]
    refine wpAnyH_take (i := 7) (v := ?_) rfl (by kernel_rfl) (by kernel_rfl) (by kernel_rfl) (fun _ _ _ h => h) (Or.inl ⟨by rfl, ?_⟩) (by assumption) ?_
    rotate_left
    · intro w hSw
      (try dsimp only at hSw)
      go_simp
      try with_reducible rfl
    try simp only [List.getElem_toArray, List.getElem_cons_succ, List.getElem_cons_zero, Act.put, List.setIfInBounds_toArray, List.set_cons_zero, List.set_cons_succ]
    refine wpAnyH_take (i := 8) (v := ?_) rfl (by kernel_rfl) (by kernel_rfl) (by kernel_rfl) (fun _ _ _ h => h) (Or.inl ⟨by rfl, ?_⟩) (by assumption) ?_
    rotate_left
    · intro w hSw
      (try dsimp only at hSw)
      go_simp
      try with_reducible rfl
    try simp only [List.getElem_toArray, List.getElem_cons_succ, List.getElem_cons_zero, Act.put, List.setIfInBounds_toArray, List.set_cons_zero, List.set_cons_succ]
    refine wpAnyH_ready (rs := [10]) (by kernel_rfl) (by simp) ?_
    refine AllReadyH.cons rfl (fun K hK => ?_) AllReadyH.nil
    obtain ⟨z0, z1, z2', z3, z4, z5, z6⟩ := cellsV ub
    have zf := row_free ub
    go_simp
    obtain ⟨wf, hwf, hrw, hbf, hkf⟩ := finV (w := w2) (R := w2.heap.size) (.int .i64 x) (.int .i64 y.kind) (.string y.data) (.slice hy.A y.ptrs.length hy.a) (.int .i64 y.size) (.int .i64 y.count) (.slice hy.B y.items.length hy.b) ub hC hvb
    have HWF := Lib.hid hwf
    have HVO : Hid (ValO (m + 1) x y w2.heap.size wf vb hy bs) := Lib.hid ⟨hrw, hov.frame (fun b hb => hkf b (hfar b hb).2), hnd, hfar, hvb⟩
    have HBF := Lib.hid hbf
    have x0 := (hbf.block _ (row_lt Y1.out)).trans Y1.out
    have x1 := (hbf.block _ (row_lt Y1.out)).trans Y1.out
    clear hwf z0 z1 z2' z3 z4 z5 z6 zf ub hC hkf hrw hbf hov hfar hnd hg hlt hgs hvb
    rw [HWF.out]
    refine hK.out _ _ ⟨x0, x1⟩ (fun hHn => ?_)
    clear HWF x0 x1
    clear hK K hHo
    have hHo := hHn
    clear hHn
    try simp only [List.getElem_toArray, List.getElem_cons_succ, List.getElem_cons_zero, Act.put, List.setIfInBounds_toArray, List.set_cons_zero, List.set_cons_succ]
    refine wpAnyH_take (i := 11) (v := ?_) rfl (by kernel_rfl) (by kernel_rfl) (by kernel_rfl) (fun _ _ _ h => h) (Or.inl ⟨by rfl, ?_⟩) (by assumption) ?_
    rotate_left
    · intro w hSw
      (try dsimp only at hSw)
      go_simp
      try with_reducible rfl
    try simp only [List.getElem_toArray, List.getElem_cons_succ, List.getElem_cons_zero, Act.put, List.setIfInBounds_toArray, List.set_cons_zero, List.set_cons_succ]
    refine wpAnyH_done (by kernel_rfl) ?_ _
    clear hHo
    go_wp2_with fail
    go_meet
    case rel => exact ⟨vb, hy, bs, rfl, rfl, HVO, HBF⟩
 case rest =>
  obtain ⟨vw, hw, bsw, rfl, rfl, HV, HC⟩ := hcut
  have HBc := Lib.hid (HB2.out.trans (HC.out.mono HB2.out.size))
  have C1 := Lib.hid ((HC.out.block _ (row_lt Y1.out)).trans Y1.out)
  go_wp2_with fail
  refine (HFL.out _ HBc.out).mono ?_
  rintro e wf ⟨gx, arrx, rfl, hgx, hrx, hsx, hax, hbx⟩
  have HBx := Lib.hid (HBc.out.trans (hbx.mono HBc.out.size))
  have C2 := Lib.hid ((hbx.block _ (row_lt C1.out)).trans C1.out)
  have HVx := Lib.hid (HV.out.below hbx)
  have HXS := Lib.hid hsx
  have HXA := Lib.hid hax
  have HXR0 := Lib.hid hrx
  have HGX0 := Lib.hid (And.intro hgx (And.intro (row_lt hrx) hbx.size))
  clear hgx hrx hsx hax hbx
  obtain ⟨n0, n1, n2, n3, n4, n5⟩ := cells6 C2.out
  go_wp2_with fail
  clear n0 n1 n2 n3 n4 n5
  refine (HTN.out _ HBx.out).mono ?_
  rintro e w4 ⟨g3, bs3, rfl, ho3, hd3, hg3, hb4⟩
  have hba : Below w4.heap.size w4 (w4.alloc (.cells #[.int .i64 n.kind, .string n.data, .slice g3.A n.ptrs.length g3.a, .int .i64 n.size, .int .i64 n.count, .slice g3.B n.items.length g3.b] nodeT)) := (Below.refl _ _).alloc (Nat.le_refl _) _
  have hbb : Below wf.heap.size wf (w4.alloc (.cells #[.int .i64 n.kind, .string n.data, .slice g3.A n.ptrs.length g3.a, .int .i64 n.size, .int .i64 n.count, .slice g3.B n.items.length g3.b] nodeT)) := hb4.trans (hba.mono hb4.size)
  have HNO : Hid (NodO m n wf.heap.size (w4.alloc (.cells #[.int .i64 n.kind, .string n.data, .slice g3.A n.ptrs.length g3.a, .int .i64 n.size, .int .i64 n.count, .slice g3.B n.items.length g3.b] nodeT)) w4.heap.size g3 bs3) := Lib.hid ⟨heap_alloc_new w4 (.cells #[.int .i64 n.kind, .string n.data, .slice g3.A n.ptrs.length g3.a, .int .i64 n.size, .int .i64 n.count, .slice g3.B n.items.length g3.b] nodeT), ho3.below hba, hd3, fun b hb => ⟨hg3 b hb, by have := (ho3.lt b hb).1; omega⟩, hb4.size⟩
  have HB4 := Lib.hid (HBx.out.trans (hbb.mono HBx.out.size))
  have D1 := Lib.hid ((hbb.block _ (row_lt C2.out)).trans C2.out)
  have HV4 := Lib.hid (HVx.out.below hbb)
  have HXR4 := Lib.hid ((hbb.block _ (row_lt HXR0.out)).trans HXR0.out)
  have hbsz := hbb.size
  obtain ⟨n0, n1, n2, n3, n4, n5⟩ := cells6 HNO.out.row
  clear hba hbb ho3 hd3 hg3 hb4
  go_wp2_with fail
  clear n0 n1 n2 n3 n4 n5
  generalize w4.alloc (.cells #[.int .i64 n.kind, .string n.data, .slice g3.A n.ptrs.length g3.a, .int .i64 n.size, .int .i64 n.count, .slice g3.B n.items.length g3.b] nodeT) = V4 at *
  generalize w4.heap.size = nb at *
  have HSZ : Hid (w.heap.size < wc.heap.size ∧ wc.heap.size ≤ gx ∧ gx < wf.heap.size ∧ wc.heap.size ≤ wf.heap.size ∧ wf.heap.size ≤ V4.heap.size) := Lib.hid ⟨row_lt C1.out, HGX0.out.1, HGX0.out.2.1, HGX0.out.2.2, hbsz⟩
  have HNF : Hid (∀ b ∈ bs3, wf.heap.size ≤ b ∧ b < V4.heap.size) := Lib.hid fun b hb => ⟨(HNO.out.far b hb).1, HNO.out.lt.2 b hb⟩
  have HVF : Hid (vw < wc.heap.size ∧ ∀ b ∈ bsw, b < wc.heap.size) := Lib.hid ⟨HV.out.lt.1, HV.out.lt.2⟩
  clear hbsz
  refine (HIA.out _ HB4.out _ (some ⟨gx, 0, none⟩) l.length g3 (Nat.le_refl _) (farr_flds HXR4.out HXA.out) HNO.out.own.nd).mono ?_
  rintro e w5 ⟨hg, bsg, rfl, hov, hnd, hfg, hb5⟩
  have hba : Below w5.heap.size w5 (w5.alloc (.cells #[.int .i64 x, .int .i64 y.kind, .string y.data, .slice hg.A y.ptrs.length hg.a, .int .i64 y.size, .int .i64 y.count, .slice hg.B y.items.length hg.b] valT)) := (Below.refl _ _).alloc (Nat.le_refl _) _
  have hbb : Below V4.heap.size V4 (w5.alloc (.cells #[.int .i64 x, .int .i64 y.kind, .string y.data, .slice hg.A y.ptrs.length hg.a, .int .i64 y.size, .int .i64 y.count, .slice hg.B y.items.length hg.b] valT)) := hb5.trans (hba.mono hb5.size)
  have HG : Hid (ValO (m + 1) x y V4.heap.size (w5.alloc (.cells #[.int .i64 x, .int .i64 y.kind, .string y.data, .slice hg.A y.ptrs.length hg.a, .int .i64 y.size, .int .i64 y.count, .slice hg.B y.items.length hg.b] valT)) w5.heap.size hg bsg) := Lib.hid ⟨heap_alloc_new w5 (.cells #[.int .i64 x, .int .i64 y.kind, .string y.data, .slice hg.A y.ptrs.length hg.a, .int .i64 y.size, .int .i64 y.count, .slice hg.B y.items.length hg.b] valT), hov.below hba, hnd, fun b hb => ⟨hfg b hb, by have := (hov.lt b hb).1; omega⟩, hb5.size⟩
  have HB5 := Lib.hid (HB4.out.trans (hbb.mono HB4.out.size))
  have C1' := Lib.hid ((hbb.block _ (row_lt D1.out)).trans D1.out)
  have HV5 := Lib.hid (HV4.out.below hbb)
  have HN5 := Lib.hid (HNO.out.below hbb)
  have HXR5 := Lib.hid ((hbb.block _ (row_lt HXR4.out)).trans HXR4.out)
  have hd : (ok != ok) = false := by simp
  obtain ⟨v0, v1, v2, v3, v4, v5, v6⟩ := cellsV HV5.out.row
  obtain ⟨y0, y1, y2, y3, y4, y5, y6⟩ := cellsV HG.out.row
  clear hba hbb hov hnd hfg hb5
  go_wp2_with fail
  generalize w5.alloc (.cells #[.int .i64 x, .int .i64 y.kind, .string y.data, .slice hg.A y.ptrs.length hg.a, .int .i64 y.size, .int .i64 y.count, .slice hg.B y.items.length hg.b] valT) = W5 at *
  generalize w5.heap.size = vg at *
  have HQ := Lib.hid (HEV.out _ _ _ hg hw HG.out.own.nd HV5.out.own.nd)
  refine HQ.out.mono ?_
  rintro e w6 ⟨rfl, hb6⟩
  clear v0 v1 v2 v3 v4 v5 v6 y0 y1 y2 y3 y4 y5 y6 HQ
  have HB6 := Lib.hid (HB5.out.trans (hb6.mono HB5.out.size))
  have D1' := Lib.hid ((hb6.block _ (row_lt C1'.out)).trans C1'.out)
  have HV6 := Lib.hid (HV5.out.below hb6)
  have HN6 := Lib.hid (HN5.out.below hb6)
  have HG6 := Lib.hid (HG.out.below hb6)
  have HXR6 := Lib.hid ((hb6.block _ (row_lt HXR5.out)).trans HXR5.out)
  clear hb6
  go_wp2_with fail
  refine (HFL.out _ HB6.out).mono ?_
  rintro e wq ⟨gq, arrq, rfl, -, hrq, -, haq, hbq⟩
  have HFQ := Lib.hid (farr_flds hrq haq)
  have HBq := Lib.hid (HB6.out.trans (hbq.mono HB6.out.size))
  have D2' := Lib.hid ((hbq.block _ (row_lt D1'.out)).trans D1'.out)
  have HVq := Lib.hid (HV6.out.below hbq)
  have HNq := Lib.hid (HN6.out.below hbq)
  have HGq := Lib.hid (HG6.out.below hbq)
  have HXRq := Lib.hid ((hbq.block _ (row_lt HXR6.out)).trans HXR6.out)
  clear hrq haq hbq
  go_wp2_with fail
  refine (eqFieldS_any _ _ l.length l.length l wq (farr_flds HXRq.out HXA.out) HFQ.out HLL.out).mono ?_
  rintro e wr ⟨rfl, hbr⟩
  have HBr := Lib.hid (HBq.out.trans (hbr.mono HBq.out.size))
  have E1' := Lib.hid ((hbr.block _ (row_lt D2'.out)).trans D2'.out)
  have HVr := Lib.hid (HVq.out.below hbr)
  have HNr := Lib.hid (HNq.out.below hbr)
  have HGr := Lib.hid (HGq.out.below hbr)
  have HXRr := Lib.hid ((hbr.block _ (row_lt HXRq.out)).trans HXRq.out)
  have N6 := Lib.hid HNr.out.row
  clear hbr HFQ
  go_wp2_with fail
  have HDR : Hid (Below wr.heap.size wr wr.drew) := Lib.hid ⟨rfl, rfl, rfl, Nat.le_refl _, fun _ _ => rfl⟩
  refine wp_region_held_drew (S := (fun V => V.heap[nb]? = some (.cells #[.int .i64 n.kind, .string n.data, .slice g3.A n.ptrs.length g3.a, .int .i64 n.size, .int .i64 n.count, .slice g3.B n.items.length g3.b] nodeT (0, 0)) ∧ V.heap[w.heap.size]? = some (.cells #[.int .i64 n.kind, .string n.data, .slice h.A n.ptrs.length h.a, .int .i64 n.size, .int .i64 n.count, .slice h.B n.items.length h.b] 25 (0, 0)))) (by kernel_rfl) ?_ (fun hH0 => ?_)
  · exact ⟨N6.out, E1'.out⟩
  have hC := HDR.out
  have hHo := hH0
  clear hH0
  have u0 := N6.out
  have u1 := E1'.out
  refine wpAnyH_take (i := 0) (v := .agg #[.int .i64 n.kind, .string n.data, .slice g3.A n.ptrs.length g3.a, .int .i64 n.size, .int .i64 n.count, .slice g3.B n.items.length g3.b]) rfl (by kernel_rfl) (by kernel_rfl) (by kernel_rfl) (fun _ _ _ h => h) (Or.inl ⟨by rfl, ?_⟩) (by assumption) ?_
  · intro w hSw
    obtain ⟨s0, s1, s2, s3, s4, s5⟩ := cells6 hSw.1
    obtain ⟨t0, t1, t2, t3, t4, t5⟩ := cells6 hSw.2
    go_simp
  try simp only [List.getElem_toArray, List.getElem_cons_succ, List.getElem_cons_zero, Act.put, List.setIfInBounds_toArray, List.set_cons_zero, List.set_cons_succ]
  refine wpAnyH_take (i := 1) (v := .agg #[.int .i64 n.kind, .string n.data, .slice h.A n.ptrs.length h.a, .int .i64 n.size, .int .i64 n.count, .slice h.B n.items.length h.b]) rfl (by kernel_rfl) (by kernel_rfl) (by kernel_rfl) (fun _ _ _ h => h) (Or.inl ⟨by rfl, ?_⟩) (by assumption) ?_
  · intro w hSw
    obtain ⟨s0, s1, s2, s3, s4, s5⟩ := cells6 hSw.1
    obtain ⟨t0, t1, t2, t3, t4, t5⟩ := cells6 hSw.2
    go_simp
  try simp only [List.getElem_toArray, List.getElem_cons_succ, List.getElem_cons_zero, Act.put, List.setIfInBounds_toArray, List.set_cons_zero, List.set_cons_succ]
  refine wpAnyH_ready (rs := [2]) (by kernel_rfl) (by simp) ?_
  refine AllReadyH.cons rfl (fun K hK => ?_) AllReadyH.nil
  go_simp
  go_at_call 9
  refine (HTN.out _ (HBr.out.trans (hC.mono HBr.out.size))).mono ?_
  rintro e w7 ⟨g2, bs2, rfl, ho2, -, -, hb3⟩
  have hn7 := HNr.out.below (hC.trans (hb3.mono hC.size))
  have hC' := hC.trans (hb3.mono hC.size)
  have v0 := (hb3.block _ (row_lt u0)).trans u0
  have v1 := (hb3.block _ (row_lt u1)).trans u1
  clear hC u0 u1
  go_wp2_with fail
  refine hK.out _ _ ⟨v0, v1⟩ (fun hHn => ?_)
  clear hK K hHo
  have hHo := hHn
  clear hHn
  have u0 := v0
  have u1 := v1
  have hC := hC'
  clear v0 v1 hC'
  try simp only [List.getElem_toArray, List.getElem_cons_succ, List.getElem_cons_zero, Act.put, List.setIfInBounds_toArray, List.set_cons_zero, List.set_cons_succ]
  clear hb3
  refine wpAnyH_ready (rs := [3]) (by kernel_rfl) (by simp) ?_
  refine AllReadyH.cons rfl (fun K hK => ?_) AllReadyH.nil
  go_simp
  go_at_call 13
  refine (HEN.out _ _ _ g3 g2 hn7.own.nd ho2.nd).mono ?_
  rintro e w8 ⟨rfl, hb3⟩
  have hC' := hC.trans (hb3.mono hC.size)
  have v0 := (hb3.block _ (row_lt u0)).trans u0
  have v1 := (hb3.block _ (row_lt u1)).trans u1
  clear hC u0 u1
  go_wp2_with fail
  refine hK.out _ _ ⟨v0, v1⟩ (fun hHn => ?_)
  clear hK K hHo
  have hHo := hHn
  clear hHn
  have u0 := v0
  have u1 := v1
  have hC := hC'
  clear v0 v1 hC'
  try simp only [List.getElem_toArray, List.getElem_cons_succ, List.getElem_cons_zero, Act.put, List.setIfInBounds_toArray, List.set_cons_zero, List.set_cons_succ]
  clear hb3 hn7 ho2
  refine wpAnyH_take (i := 4) (v := ?_) rfl (by kernel_rfl) (by kernel_rfl) (by kernel_rfl) (fun _ _ _ h => h) (Or.inl ⟨by rfl, ?_⟩) (by assumption) ?_
  rotate_left
  · intro w hSw
    (try dsimp only at hSw)
    go_simp
    try with_reducible rfl
  try simp only [List.getElem_toArray, List.getElem_cons_succ, List.getElem_cons_zero, Act.put, List.setIfInBounds_toArray, List.set_cons_zero, List.set_cons_succ]
  refine wpAnyH_done (by kernel_rfl) ?_ _
  clear hHo u0 u1
  have HB8 := Lib.hid (HBr.out.trans (hC.mono HBr.out.size))
  have F1 := Lib.hid ((hC.block _ (row_lt E1'.out)).trans E1'.out)
  have HV8 := Lib.hid (HVr.out.below hC)
  have HN8 := Lib.hid (HNr.out.below hC)
  have HG8 := Lib.hid (HGr.out.below hC)
  have HXR8 := Lib.hid ((hC.block _ (row_lt HXRr.out)).trans HXRr.out)
  clear hC
  go_wp2_with fail
  refine (markFieldS_any gx l.length l.length arrx w8 HXR8.out HXS.out HLL.out).mono ?_
  rintro e w9 ⟨rfl, hg9⟩
  have hsz := HSZ.out
  have hkp : ∀ b, b < w8.heap.size → b ≠ gx → w9.heap[b]? = w8.heap[b]? := fun b h1 h2 => hg9.block b h1 (fun e => h2 (by injection e))
  have HB9 := Lib.hid (HB8.out.trans ((Below.refl w.heap.size w8).grown hg9 HB8.out.size (fun k hk => by injection hk with hk; omega)))
  have G1 := Lib.hid ((hkp _ (row_lt F1.out) (by omega)).trans F1.out)
  have hnf := HNF.out
  have hvf := HVF.out
  have hnb := HN8.out.base
  have hgb := HG8.out.base
  have HV9 := Lib.hid (HV8.out.frame (w' := w9) (hkp _ HV8.out.lt.1 (by omega)) (fun b hb => hkp b (HV8.out.lt.2 b hb) (by have := hvf.2 b hb; omega)))
  have HN9 : Hid (NodO m n wf.heap.size w9 nb g3 bs3) := Lib.hid ⟨(hkp _ HN8.out.lt.1 (by omega)).trans HN8.out.row, HN8.out.own.frame (fun b hb => hkp b (HN8.out.lt.2 b hb) (by have := (hnf b hb).1; omega)), HN8.out.nodup, HN8.out.far, HN8.out.base⟩
  have HG9 := Lib.hid (HG8.out.frame (w' := w9) (hkp _ HG8.out.lt.1 (by omega)) (fun b hb => hkp b (HG8.out.lt.2 b hb) (by have := (HG8.out.far b hb).1; omega)))
  clear hg9 hsz hkp hnf hvf hnb hgb
  obtain ⟨n0, n1, n2, n3, n4, n5⟩ := cells6 HN9.out.row
  have HQ := Lib.hid (HMN.out g3 bs3 w9 HN9.out.own HN9.out.nodup)
  go_wp2_with fail
  refine HQ.out.mono ?_
  rintro e wm ⟨p5, i5, k1, k2, rfl, hk2, -, -, -, -, -, hoi⟩
  clear n0 n1 n2 n3 n4 n5 HQ
  have hk0 : ¬ ((k2 : Int) < 0) := by omega
  have hsz := HSZ.out
  have hkp : ∀ b, b < w9.heap.size → b ∉ bs3 → wm.heap[b]? = w9.heap[b]? := fun b h1 h2 => hoi.block b h1 h2
  have h3f := HNF.out
  have HBm := Lib.hid (HB9.out.trans (hoi.below (B := w.heap.size) HB9.out.size (fun b hb => by have := h3f b hb; omega)))
  have H1 := Lib.hid ((hkp _ (row_lt G1.out) (fun hm => by have := h3f _ hm; omega)).trans G1.out)
  have HVm := Lib.hid (HV9.out.frame (w' := wm) (hkp _ HV9.out.lt.1 (fun hm => by have := h3f _ hm; have := HVF.out.1; omega)) (fun b hb => hkp b (HV9.out.lt.2 b hb) (fun hm => by have := h3f _ hm; have := HVF.out.2 b hb; omega)))
  have HGm := Lib.hid (HG9.out.frame (w' := wm) (hkp _ HG9.out.lt.1 (fun hm => by have := h3f _ hm; have := HG9.out.base; omega)) (fun b hb => hkp b (HG9.out.lt.2 b hb) (fun hm => by have := h3f _ hm; have := (HG9.out.far b hb).1; omega)))
  clear hoi hkp hsz h3f
  obtain ⟨v0, v1, v2, v3, v4, v5, v6⟩ := cellsV HVm.out.row
  obtain ⟨y0, y1, y2, y3, y4, y5, y6⟩ := cellsV HGm.out.row
  have HQ := Lib.hid (HEV.out _ _ _ hg hw HGm.out.own.nd HVm.out.own.nd)
  go_wp2_with fail
  refine HQ.out.mono ?_
  rintro e w10 ⟨rfl, hb10⟩
  clear v0 v1 v2 v3 v4 v5 v6 y0 y1 y2 y3 y4 y5 y6 HQ hk0 hk2
  have HB10 := Lib.hid (HBm.out.trans (hb10.mono HBm.out.size))
  have I1 := Lib.hid ((hb10.block _ (row_lt H1.out)).trans H1.out)
  have HV10 := Lib.hid (HVm.out.below hb10)
  have HG10 := Lib.hid (HGm.out.below hb10)
  clear hb10
  obtain ⟨y0, y1, y2, y3, y4, y5, y6⟩ := cellsV HG10.out.row
  have HQ := Lib.hid (HMV.out hg bsg w10 HG10.out.own HG10.out.nodup)
  go_wp2_with fail
  refine HQ.out.mono ?_
  rintro e w11 ⟨pg, ig, m1, m2, rfl, hm2, hpl, hil, hom, hh1, hh2, hoi⟩
  clear y0 y1 y2 y3 y4 y5 y6 HQ
  have hm0 : ¬ ((m2 : Int) < 0) := by omega
  have hmm : ((m2 : Int) != (m2 : Int)) = false := by simp
  have hsz := HSZ.out
  have hgf := HG10.out.far
  have hgb := HG10.out.base
  have hkp : ∀ b, b < w10.heap.size → b ∉ bsg → w11.heap[b]? = w10.heap[b]? := fun b h1 h2 => hoi.block b h1 h2
  have HB11 := Lib.hid (HB10.out.trans (hoi.below (B := w.heap.size) HB10.out.size (fun b hb => by have := hgf b hb; omega)))
  have J1 := Lib.hid ((hkp _ (row_lt I1.out) (fun hm => by have := hgf _ hm; omega)).trans I1.out)
  have HV11 := Lib.hid (HV10.out.frame (w' := w11) (hkp _ HV10.out.lt.1 (fun hm => by have := hgf _ hm; have := HVF.out.1; omega)) (fun b hb => hkp b (HV10.out.lt.2 b hb) (fun hm => by have := hgf _ hm; have := HVF.out.2 b hb; omega)))
  have HGR := Lib.hid ((hkp _ HG10.out.lt.1 (fun hm => (hgf _ hm).2 rfl)).trans HG10.out.row)
  have HHE : Hid (∀ V : World, Below w11.heap.size w11 V → Calls Tryz.prog 17 #[.agg #[.int .i64 x, .int .i64 y.kind, .string y.data, .slice hg.A y.ptrs.length hg.a, .int .i64 y.size, .int .i64 y.count, .slice hg.B y.items.length hg.b], .int .i64 1] V fun e w' => e = .returned (.int .i64 (m2 : Int)) ∧ Below V.heap.size V w') := Lib.hid fun V hV => by
   have hq := HHV.out hg bsg V _ m1 m2 pg ig (hom.nd.below hV) hh1 hh2 hm2
   have e1 : (Nd.mk y.kind y.data pg y.size y.count ig).ptrs.length = y.ptrs.length := hpl
   have e2 : (Nd.mk y.kind y.data pg y.size y.count ig).items.length = y.items.length := hil
   unfold valV at hq
   rw [e1, e2] at hq
   exact hq
  clear hoi hkp hsz hgf hgb hom hh1 hh2 hpl hil hm2
  obtain ⟨y0, y1, y2, y3, y4, y5, y6⟩ := cellsV HGR.out
  go_wp2_with fail
  refine (HHE.out _ (Below.refl _ _)).mono ?_
  rintro e w9 ⟨rfl, hb9⟩
  clear y0 y1 y2 y3 y4 y5 y6
  have HK9 := Lib.hid hb9
  have HBF9 := Lib.hid (HB11.out.trans (hb9.mono HB11.out.size))
  have E1 := Lib.hid ((hb9.block _ (row_lt J1.out)).trans J1.out)
  have HVE := Lib.hid (HV11.out.below hb9)
  have HGE := Lib.hid ((hb9.block _ (row_lt HGR.out)).trans HGR.out)
  clear hb9
  go_upto_region 31 with fail
  go_cut [17, 18] (fun s14 s15 wx => ∃ (vb : Nat) (hy : Hd) (bs : List Nat), s14 = .pointer (some ⟨vb, 0, none⟩) ∧ s15 = .bool ok ∧ Hid (ValO (m + 1) x y w9.heap.size wx vb hy bs) ∧ Hid (Below w9.heap.size w9 wx))
  case first =>
   have HDR : Hid (Below w9.heap.size w9 w9.drew) := Lib.hid ⟨rfl, rfl, rfl, Nat.le_refl _, fun _ _ => rfl⟩
   refine wp_region_held_drew (S := (fun V => V.heap[w.heap.size]? = some (.cells #[.int .i64 n.kind, .string n.data, .slice h.A n.ptrs.length h.a, .int .i64 n.size, .int .i64 n.count, .slice h.B n.items.length h.b] 25 (0, 0)) ∧ V.heap[w.heap.size]? = some (.cells #[.int .i64 n.kind, .string n.data, .slice h.A n.ptrs.length h.a, .int .i64 n.size, .int .i64 n.count, .slice h.B n.items.length h.b] 25 (0, 0)))) (by kernel_rfl) ?_ (fun hH0 => ?_)
   · exact ⟨E1.out, E1.out⟩
   have hC := HDR.out
   have hHo := hH0
   clear hH0
   have u0 := E1.out
   have u1 := E1.out
   refine wpAnyH_take (i := 0) (v := .slice A l.length cap) rfl (by kernel_rfl) (by kernel_rfl) (by kernel_rfl) (fun _ _ _ h => h) (Or.inl ⟨by rfl, ?_⟩) (by assumption) ?_
   · intro w hSw
     obtain ⟨t0, t1, t2, t3, t4, t5⟩ := cells6 hSw.2
     go_simp
   try simp only [List.getElem_toArray, List.getElem_cons_succ, List.getElem_cons_zero, Act.put, List.setIfInBounds_toArray, List.set_cons_zero, List.set_cons_succ]
   refine wpAnyH_take (i := 2) (v := .agg #[.int .i64 n.kind, .string n.data, .slice h.A n.ptrs.length h.a, .int .i64 n.size, .int .i64 n.count, .slice h.B n.items.length h.b]) rfl (by kernel_rfl) (by kernel_rfl) (by kernel_rfl) (fun _ _ _ h => h) (Or.inl ⟨by rfl, ?_⟩) (by assumption) ?_
   · intro w hSw
     obtain ⟨t0, t1, t2, t3, t4, t5⟩ := cells6 hSw.2
     go_simp
   try simp only [List.getElem_toArray, List.getElem_cons_succ, List.getElem_cons_zero, Act.put, List.setIfInBounds_toArray, List.set_cons_zero, List.set_cons_succ]
   refine wpAnyH_take (i := 4) (v := .int .i64 a) rfl (by kernel_rfl) (by kernel_rfl) (by kernel_rfl) (fun _ _ _ h => h) (Or.inl ⟨by rfl, ?_⟩) (by assumption) ?_
   · intro w hSw
     obtain ⟨t0, t1, t2, t3, t4, t5⟩ := cells6 hSw.2
     go_simp
   try simp only [List.getElem_toArray, List.getElem_cons_succ, List.getElem_cons_zero, Act.put, List.setIfInBounds_toArray, List.set_cons_zero, List.set_cons_succ]
   refine wpAnyH_ready (rs := [1, 9]) (by kernel_rfl) (by simp) ?_
   refine AllReadyH.cons rfl (fun K hK => ?_) (AllReadyH.cons rfl (fun K hK => ?_) AllReadyH.nil)
   · go_simp
     go_at_call 8
     refine (HFL.out _ (HBF9.out.trans (hC.mono HBF9.out.size))).mono ?_
     rintro e w30 ⟨g4, arr4, rfl, -, hr4, -, ha4, hb3⟩
     have hf4 := farr_flds hr4 ha4
     clear hr4 ha4
     have hC' := hC.trans (hb3.mono hC.size)
     have vu0 := (hb3.block _ (row_lt u0)).trans u0
     have vu1 := (hb3.block _ (row_lt u1)).trans u1
     clear u0 u1
     have u0 := vu0
     clear vu0
     have u1 := vu1
     clear vu1
     clear hb3 hC
     go_wp2_with fail
     refine hK.out _ _ ⟨u0, u1⟩ (fun hHn => ?_)
     clear hK K hHo
     have hHo := hHn
     clear hHn
     try simp only [List.getElem_toArray, List.getElem_cons_succ, List.getElem_cons_zero, Act.put, List.setIfInBounds_toArray, List.set_cons_zero, List.set_cons_succ]
     have hC := hC'
     clear hC'
     refine wpAnyH_ready (rs := [3, 9]) (by kernel_rfl) (by simp) ?_
     refine AllReadyH.cons rfl (fun K hK => ?_) (AllReadyH.cons rfl (fun K hK => ?_) AllReadyH.nil)
     · go_simp
       go_at_call 9
       refine (HTN.out _ (HBF9.out.trans (hC.mono HBF9.out.size))).mono ?_
       rintro e w31 ⟨g2, bs2, rfl, ho2, -, -, hb3⟩
       have hC' := hC.trans (hb3.mono hC.size)
       have vu0 := (hb3.block _ (row_lt u0)).trans u0
       have vu1 := (hb3.block _ (row_lt u1)).trans u1
       have vhf4 := hf4.below hb3
       clear u0 u1 hf4
       have u0 := vu0
       clear vu0
       have u1 := vu1
       clear vu1
       have hf4 := vhf4
       clear vhf4
       clear hb3 hC
       go_wp2_with fail
       refine hK.out _ _ ⟨u0, u1⟩ (fun hHn => ?_)
       clear hK K hHo
       have hHo := hHn
       clear hHn
       try simp only [List.getElem_toArray, List.getElem_cons_succ, List.getElem_cons_zero, Act.put, List.setIfInBounds_toArray, List.set_cons_zero, List.set_cons_succ]
       have hC := hC'
       clear hC'
       refine wpAnyH_ready (rs := [5, 9]) (by kernel_rfl) (by simp) ?_
       refine AllReadyH.cons rfl (fun K hK => ?_) (AllReadyH.cons rfl (fun K hK => ?_) AllReadyH.nil)
       · go_simp
         go_at_call 10
         refine (HIA.out _ (HBF9.out.trans (hC.mono HBF9.out.size)) _ (some ⟨g4, 0, none⟩) l.length g2 (Nat.le_refl _) hf4 ho2.nd).mono ?_
         rintro e w32 ⟨hy, bs, rfl, hov, hnd, hg, hb3⟩
         clear ho2 hf4
         have hC' := hC.trans (hb3.mono hC.size)
         have hgs : w9.heap.size ≤ w31.heap.size := hC.size
         have hlt := fun b hb => (hov.lt b hb).1
         have vu0 := (hb3.block _ (row_lt u0)).trans u0
         have vu1 := (hb3.block _ (row_lt u1)).trans u1
         clear u0 u1
         have u0 := vu0
         clear vu0
         have u1 := vu1
         clear vu1
         clear hb3 hC
         go_wp2_with fail
         refine hK.out _ _ ⟨u0, u1⟩ (fun hHn => ?_)
         clear hK K hHo
         have hHo := hHn
         clear hHn
         try simp only [List.getElem_toArray, List.getElem_cons_succ, List.getElem_cons_zero, Act.put, List.setIfInBounds_toArray, List.set_cons_zero, List.set_cons_succ]
         have hC := hC'
         clear hC'
         refine wpAnyH_take (i := 6) (v := ?_) rfl (by kernel_rfl) (by kernel_rfl) (by kernel_rfl) (fun _ _ _ h => h) (Or.inl ⟨by rfl, ?_⟩) (by assumption) ?_
         rotate_left
         · intro w hSw
           (try dsimp only at hSw)
           go_simp
           try with_reducible rfl
         try simp only [List.getElem_toArray, List.getElem_cons_succ, List.getElem_cons_zero, Act.put, List.setIfInBounds_toArray, List.set_cons_zero, List.set_cons_succ]
         refine wpAnyH_take (i := 7) (v := ?_) rfl (by kernel_rfl) (by kernel_rfl) (by kernel_rfl) (fun _ _ _ h => h) (Or.inl ⟨by rfl, ?_⟩) (by assumption) ?_
         rotate_left
         · intro w hSw
           (try dsimp only at hSw)
           go_simp
           try with_reducible rfl
         try simp only [List.getElem_toArray, List.getElem_cons_succ, List.getElem_cons_zero, Act.put, List.setIfInBounds_toArray, List.set_cons_zero, List.set_cons_succ]
         refine wpAnyH_take (i := 8) (v := ?_) rfl (by kernel_rfl) (by kernel_rfl) (by kernel_rfl) (fun _ _ _ h => h) (Or.inl ⟨by rfl, ?_⟩) (by assumption) ?_
         rotate_left
         · intro w hSw
           (try dsimp only at hSw)
           go_simp
           try with_reducible rfl
         try simp only [List.getElem_toArray, List.getElem_cons_succ, List.getElem_cons_zero, Act.put, List.setIfInBounds_toArray, List.set_cons_zero, List.set_cons_succ]
         refine wpAnyH_ready (rs := [9]) (by kernel_rfl) (by simp) ?_
         refine AllReadyH.cons rfl (fun K hK => ?_) AllReadyH.nil
         go_simp
         have hba : Below w32.heap.size w32 ((w32.alloc (.cells #[.int .i64 0, .int .i64 0, .string { data := #[] }, .slice none 0 0, .int .i64 0, .int .i64 0, .slice none 0 0] valT))) := (Below.refl w32.heap.size w32).alloc (Nat.le_refl _) (.cells #[.int .i64 0, .int .i64 0, .string { data := #[] }, .slice none 0 0, .int .i64 0, .int .i64 0, .slice none 0 0] valT)
         have hC' : Below w9.heap.size w9 ((w32.alloc (.cells #[.int .i64 0, .int .i64 0, .string { data := #[] }, .slice none 0 0, .int .i64 0, .int .i64 0, .slice none 0 0] valT))) := hC.trans (hba.mono hC.size)
         have ub : ((w32.alloc (.cells #[.int .i64 0, .int .i64 0, .string { data := #[] }, .slice none 0 0, .int .i64 0, .int .i64 0, .slice none 0 0] valT))).heap[w32.heap.size]? = some (.cells #[.int .i64 0, .int .i64 0, .string { data := #[] }, .slice none 0 0, .int .i64 0, .int .i64 0, .slice none 0 0] valT (0, 0)) := heap_alloc_new w32 (.cells #[.int .i64 0, .int .i64 0, .string { data := #[] }, .slice none 0 0, .int .i64 0, .int .i64 0, .slice none 0 0] valT)
         obtain ⟨vb, hvbe⟩ : ∃ vb, vb = w32.heap.size := ⟨_, rfl⟩
         have hvb : w9.heap.size ≤ vb := by rw [hvbe]; exact hC.size
         have vu0 := (hba.block _ (row_lt u0)).trans u0
         have vu1 := (hba.block _ (row_lt u1)).trans u1
         have vhov := hov.below hba
         clear u0 u1 hov
         have u0 := vu0
         clear vu0
         have u1 := vu1
         clear vu1
         have hov := vhov
         clear vhov
         have hfar : ∀ b ∈ bs, w9.heap.size ≤ b ∧ b ≠ vb := fun b hb => ⟨by have := hg b hb; have := hgs; omega, by have := hlt b hb; omega⟩
         clear hba hC
         rw [← hvbe] at ub ⊢
         clear hvbe
         generalize ((w32.alloc (.cells #[.int .i64 0, .int .i64 0, .string { data := #[] }, .slice none 0 0, .int .i64 0, .int .i64 0, .slice none 0 0] valT))) = wa at *
         refine hK.out _ _ ⟨u0, u1⟩ (fun hHn => ?_)
         clear hK K hHo
         have hHo := hHn
         clear hHn
         try simp only [List.getElem_toArray, List.getElem_cons_succ, List.getElem_cons_zero, Act.put, List.setIfInBounds_toArray, List.set_cons_zero, List.set_cons_succ]
         have hC := hC'
         clear hC'
         refine wpAnyH_ready (rs := [10]) (by kernel_rfl) (by simp) ?_
         refine AllReadyH.cons rfl (fun K hK => ?_) AllReadyH.nil
         obtain ⟨z0, z1, z2', z3, z4, z5, z6⟩ := cellsV ub
         have zf := row_free ub
         go_simp
         obtain ⟨wf, hwf, hrw, hbf, hkf⟩ := finV (w := w9) (R := w9.heap.size) (.int .i64 x) (.int .i64 y.kind) (.string y.data) (.slice hy.A y.ptrs.length hy.a) (.int .i64 y.size) (.int .i64 y.count) (.slice hy.B y.items.length hy.b) ub hC hvb
         have HWF := Lib.hid hwf
         have HVO : Hid (ValO (m + 1) x y w9.heap.size wf vb hy bs) := Lib.hid ⟨hrw, hov.frame (fun b hb => hkf b (hfar b hb).2), hnd, hfar, hvb⟩
         have HBF := Lib.hid hbf
         have x0 := (hbf.block _ (row_lt E1.out)).trans E1.out
         have x1 := (hbf.block _ (row_lt E1.out)).trans E1.out
         clear hwf z0 z1 z2' z3 z4 z5 z6 zf ub hC hkf hrw hbf hov hfar hnd hg hlt hgs hvb
         rw [HWF.out]
         refine hK.out _ _ ⟨x0, x1⟩ (fun hHn => ?_)
         clear HWF x0 x1
         clear hK K hHo
         have hHo := hHn
         clear hHn
         try simp only [List.getElem_toArray, List.getElem_cons_succ, List.getElem_cons_zero, Act.put, List.setIfInBounds_toArray, List.set_cons_zero, List.set_cons_succ]
         refine wpAnyH_take (i := 11) (v := ?_) rfl (by kernel_rfl) (by kernel_rfl) (by kernel_rfl) (fun _ _ _ h => h) (Or.inl ⟨by rfl, ?_⟩) (by assumption) ?_
         rotate_left
         · intro w hSw
           (try dsimp only at hSw)
           go_simp
           try with_reducible rfl
         try simp only [List.getElem_toArray, List.getElem_cons_succ, List.getElem_cons_zero, Act.put, List.setIfInBounds_toArray, List.set_cons_zero, List.set_cons_succ]
         refine wpAnyH_done (by kernel_rfl) ?_ _
         clear hHo
         go_wp2_with fail
         go_meet
         case rel => exact ⟨vb, hy, bs, rfl, rfl, HVO, HBF⟩
       · go_simp
         have hba : Below w31.heap.size w31 ((w31.alloc (.cells #[.int .i64 0, .int .i64 0, .string { data := #[] }, .slice none 0 0, .int .i64 0, .int .i64 0, .slice none 0 0] valT))) := (Below.refl w31.heap.size w31).alloc (Nat.le_refl _) (.cells #[.int .i64 0, .int .i64 0, .string { data := #[] }, .slice none 0 0, .int .i64 0, .int .i64 0, .slice none 0 0] valT)
         have hC' : Below w9.heap.size w9 ((w31.alloc (.cells #[.int .i64 0, .int .i64 0, .string { data := #[] }, .slice none 0 0, .int .i64 0, .int .i64 0, .slice none 0 0] valT))) := hC.trans (hba.mono hC.size)
         have ub : ((w31.alloc (.cells #[.int .i64 0, .int .i64 0, .string { data := #[] }, .slice none 0 0, .int .i64 0, .int .i64 0, .slice none 0 0] valT))).heap[w31.heap.size]? = some (.cells #[.int .i64 0, .int .i64 0, .string { data := #[] }, .slice none 0 0, .int .i64 0, .int .i64 0, .slice none 0 0] valT (0, 0)) := heap_alloc_new w31 (.cells #[.int .i64 0, .int .i64 0, .string { data := #[] }, .slice none 0 0, .int .i64 0, .int .i64 0, .slice none 0 0] valT)
         obtain ⟨vb, hvbe⟩ : ∃ vb, vb = w31.heap.size := ⟨_, rfl⟩
         have hvb : w9.heap.size ≤ vb := by rw [hvbe]; exact hC.size
         have vu0 := (hba.block _ (row_lt u0)).trans u0
         have vu1 := (hba.block _ (row_lt u1)).trans u1
         have vhf4 := hf4.below hba
         have vho2 := ho2.below hba
         clear u0 u1 hf4 ho2
         have u0 := vu0
         clear vu0
         have u1 := vu1
         clear vu1
         have hf4 := vhf4
         clear vhf4
         have ho2 := vho2
         clear vho2
         clear hba hC
         rw [← hvbe] at ub ⊢
         clear hvbe
         generalize ((w31.alloc (.cells #[.int .i64 0, .int .i64 0, .string { data := #[] }, .slice none 0 0, .int .i64 0, .int .i64 0, .slice none 0 0] valT))) = wa at *
         refine hK.out _ _ ⟨u0, u1⟩ (fun hHn => ?_)
         clear hK K hHo
         have hHo := hHn
         clear hHn
         try simp only [List.getElem_toArray, List.getElem_cons_succ, List.getElem_cons_zero, Act.put, List.setIfInBounds_toArray, List.set_cons_zero, List.set_cons_succ]
         have hC := hC'
         clear hC'
         refine wpAnyH_ready (rs := [5]) (by kernel_rfl) (by simp) ?_
         refine AllReadyH.cons rfl (fun K hK => ?_) AllReadyH.nil
         go_simp
         go_at_call 10
         refine (HIA.out _ (HBF9.out.trans (hC.mono HBF9.out.size)) _ (some ⟨g4, 0, none⟩) l.length g2 (Nat.le_refl _) hf4 ho2.nd).mono ?_
         rintro e w32 ⟨hy, bs, rfl, hov, hnd, hg, hb3⟩
         clear ho2 hf4
         have hC' := hC.trans (hb3.mono hC.size)
         have hgs : w9.heap.size ≤ wa.heap.size := hC.size
         have hlt := fun b hb => (hov.lt b hb).1
         have hvl := row_lt ub
         have hfar : ∀ b ∈ bs, w9.heap.size ≤ b ∧ b ≠ vb := fun b hb => ⟨by have := hg b hb; omega, by have := hg b hb; omega⟩
         have vu0 := (hb3.block _ (row_lt u0)).trans u0
         have vu1 := (hb3.block _ (row_lt u1)).trans u1
         have vub := (hb3.block _ (row_lt ub)).trans ub
         clear u0 u1 ub
         have u0 := vu0
         clear vu0
         have u1 := vu1
         clear vu1
         have ub := vub
         clear vub
         clear hb3 hC
         go_wp2_with fail
         refine hK.out _ _ ⟨u0, u1⟩ (fun hHn => ?_)
         clear hK K hHo
         have hHo := hHn
         clear hHn
         try simp only [List.getElem_toArray, List.getElem_cons_succ, List.getElem_cons_zero, Act.put, List.setIfInBounds_toArray, List.set_cons_zero, List.set_cons_succ]
         have hC := hC'
         clear hC'
         refine wpAnyH_take (i := 6) (v := ?_) rfl (by kernel_rfl) (by kernel_rfl) (by kernel_rfl) (fun _ _ _ h => h) (Or.inl ⟨by rfl, ?_⟩) (by assumption) ?_
         rotate_left
         · intro w hSw
           (try dsimp only at hSw)
           go_simp
           try with_reducible rfl
         try simp only [List.getElem_toArray, List.getElem_cons_succ, List.getElem_cons_zero, Act.put, List.setIfInBounds_toArray, List.set_cons_zero, List.set_cons_succ]
         refine wpAnyH_take (i := 7) (v := ?_) rfl (by kernel_rfl) (by kernel_rfl) (by kernel_rfl) (fun _ _ _ h => h) (Or.inl ⟨by rfl, ?_⟩) (by assumption) ?_
         rotate_left
         · intro w hSw
           (try dsimp only at hSw)
           go_simp
           try with_reducible rfl
         try simp only [List.getElem_toArray, List.getElem_cons_succ, List.getElem_cons_zero, Act.put, List.setIfInBounds_toArray, List.set_cons_zero, List.set_cons_succ]
         refine wpAnyH_take (i := 8) (v := ?_) rfl (by kernel_rfl) (by kernel_rfl) (by kernel_rfl) (fun _ _ _ h => h) (Or.inl ⟨by rfl, ?_⟩) (by assumption) ?_
         rotate_left
         · intro w hSw
           (try dsimp only at hSw)
           go_simp
           try with_reducible rfl
         try simp only [List.getElem_toArray, List.getElem_cons_succ, List.getElem_cons_zero, Act.put, List.setIfInBounds_toArray, List.set_cons_zero, List.set_cons_succ]
         refine wpAnyH_ready (rs := [10]) (by kernel_rfl) (by simp) ?_
         refine AllReadyH.cons rfl (fun K hK => ?_) AllReadyH.nil
         obtain ⟨z0, z1, z2', z3, z4, z5, z6⟩ := cellsV ub
         have zf := row_free ub
         go_simp
         obtain ⟨wf, hwf, hrw, hbf, hkf⟩ := finV (w := w9) (R := w9.heap.size) (.int .i64 x) (.int .i64 y.kind) (.string y.data) (.slice hy.A y.ptrs.length hy.a) (.int .i64 y.size) (.int .i64 y.count) (.slice hy.B y.items.length hy.b) ub hC hvb
         have HWF := Lib.hid hwf
         have HVO : Hid (ValO (m + 1) x y w9.heap.size wf vb hy bs) := Lib.hid ⟨hrw, hov.frame (fun b hb => hkf b (hfar b hb).2), hnd, hfar, hvb⟩
         have HBF := Lib.hid hbf
         have x0 := (hbf.block _ (row_lt E1.out)).trans E1.out
         have x1 := (hbf.block _ (row_lt E1.out)).trans E1.out
         clear hwf z0 z1 z2' z3 z4 z5 z6 zf ub hC hkf hrw hbf hov hfar hnd hg hlt hgs hvb
         rw [HWF.out]
         refine hK.out _ _ ⟨x0, x1⟩ (fun hHn => ?_)
         clear HWF x0 x1
         clear hK K hHo
         have hHo := hHn
         clear hHn
         try simp only [List.getElem_toArray, List.getElem_cons_succ, List.getElem_cons_zero, Act.put, List.setIfInBounds_toArray, List.set_cons_zero, List.set_cons_succ]
         refine wpAnyH_take (i := 11) (v := ?_) rfl (by kernel_rfl) (by kernel_rfl) (by kernel_rfl) (fun _ _ _ h => h) (Or.inl ⟨by rfl, ?_⟩) (by assumption) ?_
         rotate_left
         · intro w hSw
           (try dsimp only at hSw)
           go_simp
           try with_reducible rfl
         try simp only [List.getElem_toArray, List.getElem_cons_succ, List.getElem_cons_zero, Act.put, List.setIfInBounds_toArray, List.set_cons_zero, List.set_cons_succ]
         refine wpAnyH_done (by kernel_rfl) ?_ _
         clear hHo
         go_wp2_with fail
         go_meet
         case rel => exact ⟨vb, hy, bs, rfl, rfl, HVO, HBF⟩
     · go_simp
       have hba : Below w30.heap.size w30 ((w30.alloc (.cells #[.int .i64 0, .int .i64 0, .string { data := #[] }, .slice none 0 0, .int .i64 0, .int .i64 0, .slice none 0 0] valT))) := (Below.refl w30.heap.size w30).alloc (Nat.le_refl _) (.cells #[.int .i64 0, .int .i64 0, .string { data := #[] }, .slice none 0 0, .int .i64 0, .int .i64 0, .slice none 0 0] valT)
       have hC' : Below w9.heap.size w9 ((w30.alloc (.cells #[.int .i64 0, .int .i64 0, .string { data := #[] }, .slice none 0 0, .int .i64 0, .int .i64 0, .slice none 0 0] valT))) := hC.trans (hba.mono hC.size)
       have ub : ((w30.alloc (.cells #[.int .i64 0, .int .i64 0, .string { data := #[] }, .slice none 0 0, .int .i64 0, .int .i64 0, .slice none 0 0] valT))).heap[w30.heap.size]? = some (.cells #[.int .i64 0, .int .i64 0, .string { data := #[] }, .slice none 0 0, .int .i64 0, .int .i64 0, .slice none 0 0] valT (0, 0)) := heap_alloc_new w30 (.cells #[.int .i64 0, .int .i64 0, .string { data := #[] }, .slice none 0 0, .int .i64 0, .int .i64 0, .slice none 0 0] valT)
       obtain ⟨vb, hvbe⟩ : ∃ vb, vb = w30.heap.size := ⟨_, rfl⟩
       have hvb : w9.heap.size ≤ vb := by rw [hvbe]; exact hC.size
       have vu0 := (hba.block _ (row_lt u0)).trans u0
       have vu1 := (hba.block _ (row_lt u1)).trans u1
       have vhf4 := hf4.below hba
       clear u0 u1 hf4
       have u0 := vu0
       clear vu0
       have u1 := vu1
       clear vu1
       have hf4 := vhf4
       clear vhf4
       clear hba hC
       rw [← hvbe] at ub ⊢
       clear hvbe
       generalize ((w30.alloc (.cells #[.int .i64 0, .int .i64 0, .string { data := #[] }, .slice none 0 0, .int .i64 0, .int .i64 0, .slice none 0 0] valT))) = wa at *
       refine hK.out _ _ ⟨u0, u1⟩ (fun hHn => ?_)
       clear hK K hHo
       have hHo := hHn
       clear hHn
       try simp only [List.getElem_toArray, List.getElem_cons_succ, List.getElem_cons_zero, Act.put, List.setIfInBounds_toArray, List.set_cons_zero, List.set_cons_succ]
       have hC := hC'
       clear hC'
       refine wpAnyH_ready (rs := [3]) (by kernel_rfl) (by simp) ?_
       refine AllReadyH.cons rfl (fun K hK => ?_) AllReadyH.nil
       go_simp
       go_at_call 9
       refine (HTN.out _ (HBF9.out.trans (hC.mono HBF9.out.size))).mono ?_
       rintro e w31 ⟨g2, bs2, rfl, ho2, -, -, hb3⟩
       have hC' := hC.trans (hb3.mono hC.size)
       have vu0 := (hb3.block _ (row_lt u0)).trans u0
       have vu1 := (hb3.block _ (row_lt u1)).trans u1
       have vhf4 := hf4.below hb3
       have vub := (hb3.block _ (row_lt ub)).trans ub
       clear u0 u1 hf4 ub
       have u0 := vu0
       clear vu0
       have u1 := vu1
       clear vu1
       have hf4 := vhf4
       clear vhf4
       have ub := vub
       clear vub
       clear hb3 hC
       go_wp2_with fail
       refine hK.out _ _ ⟨u0, u1⟩ (fun hHn => ?_)
       clear hK K hHo
       have hHo := hHn
       clear hHn
       try simp only [List.getElem_toArray, List.getElem_cons_succ, List.getElem_cons_zero, Act.put, List.setIfInBounds_toArray, List.set_cons_zero, List.set_cons_succ]
       have hC := hC'
       clear hC'
       refine wpAnyH_ready (rs := [5]) (by kernel_rfl) (by simp) ?_
       refine AllReadyH.cons rfl (fun K hK => ?_) AllReadyH.nil
       go_simp
       go_at_call 10
       refine (HIA.out _ (HBF9.out.trans (hC.mono HBF9.out.size)) _ (some ⟨g4, 0, none⟩) l.length g2 (Nat.le_refl _) hf4 ho2.nd).mono ?_
       rintro e w32 ⟨hy, bs, rfl, hov, hnd, hg, hb3⟩
       clear ho2 hf4
       have hC' := hC.trans (hb3.mono hC.size)
       have hgs : w9.heap.size ≤ w31.heap.size := hC.size
       have hlt := fun b hb => (hov.lt b hb).1
       have hvl := row_lt ub
       have hfar : ∀ b ∈ bs, w9.heap.size ≤ b ∧ b ≠ vb := fun b hb => ⟨by have := hg b hb; omega, by have := hg b hb; omega⟩
       have vu0 := (hb3.block _ (row_lt u0)).trans u0
       have vu1 := (hb3.block _ (row_lt u1)).trans u1
       have vub := (hb3.block _ (row_lt ub)).trans ub
       clear u0 u1 ub
       have u0 := vu0
       clear vu0
       have u1 := vu1
       clear vu1
       have ub := vub
       clear vub
       clear hb3 hC
       go_wp2_with fail
       refine hK.out _ _ ⟨u0, u1⟩ (fun hHn => ?_)
       clear hK K hHo
       have hHo := hHn
       clear hHn
       try simp only [List.getElem_toArray, List.getElem_cons_succ, List.getElem_cons_zero, Act.put, List.setIfInBounds_toArray, List.set_cons_zero, List.set_cons_succ]
       have hC := hC'
       clear hC'
       refine wpAnyH_take (i := 6) (v := ?_) rfl (by kernel_rfl) (by kernel_rfl) (by kernel_rfl) (fun _ _ _ h => h) (Or.inl ⟨by rfl, ?_⟩) (by assumption) ?_
       rotate_left
       · intro w hSw
         (try dsimp only at hSw)
         go_simp
         try with_reducible rfl
       try simp only [List.getElem_toArray, List.getElem_cons_succ, List.getElem_cons_zero, Act.put, List.setIfInBounds_toArray, List.set_cons_zero, List.set_cons_succ]
       refine wpAnyH_take (i := 7) (v := ?_) rfl (by kernel_rfl) (by kernel_rfl) (by kernel_rfl) (fun _ _ _ h => h) (Or.inl ⟨by rfl, ?_⟩) (by assumption) ?_
       rotate_left
       · intro w hSw
         (try dsimp only at hSw)
         go_simp
         try with_reducible rfl
       try simp only [List.getElem_toArray, List.getElem_cons_succ, List.getElem_cons_zero, Act.put, List.setIfInBounds_toArray, List.set_cons_zero, List.set_cons_succ]
       refine wpAnyH_take (i := 8) (v := ?_) rfl (by kernel_rfl) (by kernel_rfl) (by kernel_rfl) (fun _ _ _ h => h) (Or.inl ⟨by rfl, ?_⟩) (by assumption) ?_
       rotate_left
       · intro w hSw
         (try dsimp only at hSw)
         go_simp
         try with_reducible rfl
       try simp only [List.getElem_toArray, List.getElem_cons_succ, List.getElem_cons_zero, Act.put, List.setIfInBounds_toArray, List.set_cons_zero, List.set_cons_succ]
       refine wpAnyH_ready (rs := [10]) (by kernel_rfl) (by simp) ?_
       refine AllReadyH.cons rfl (fun K hK => ?_) AllReadyH.nil
       obtain ⟨z0, z1, z2', z3, z4, z5, z6⟩ := cellsV ub
       have zf := row_free ub
       go_simp
       obtain ⟨wf, hwf, hrw, hbf, hkf⟩ := finV (w := w9) (R := w9.heap.size) (.int .i64 x) (.int .i64 y.kind) (.string y.data) (.slice hy.A y.ptrs.length hy.a) (.int .i64 y.size) (.int .i64 y.count) (.slice hy.B y.items.length hy.b) ub hC hvb
       have HWF := Lib.hid hwf
       have HVO : Hid (ValO (m + 1) x y w9.heap.size wf vb hy bs) := Lib.hid ⟨hrw, hov.frame (fun b hb => hkf b (hfar b hb).2), hnd, hfar, hvb⟩
       have HBF := Lib.hid hbf
       have x0 := (hbf.block _ (row_lt E1.out)).trans E1.out
       have x1 := (hbf.block _ (row_lt E1.out)).trans E1.out
       clear hwf z0 z1 z2' z3 z4 z5 z6 zf ub hC hkf hrw hbf hov hfar hnd hg hlt hgs hvb
       rw [HWF.out]
       refine hK.out _ _ ⟨x0, x1⟩ (fun hHn => ?_)
       clear HWF x0 x1
       clear hK K hHo
       have hHo := hHn
       clear hHn
       try simp only [List.getElem_toArray, List.getElem_cons_succ, List.getElem_cons_zero, Act.put, List.setIfInBounds_toArray, List.set_cons_zero, List.set_cons_succ]
       refine wpAnyH_take (i := 11) (v := ?_) rfl (by kernel_rfl) (by kernel_rfl) (by kernel_rfl) (fun _ _ _ h => h) (Or.inl ⟨by rfl, ?_⟩) (by assumption) ?_
       rotate_left
       · intro w hSw
         (try dsimp only at hSw)
         go_simp
         try with_reducible rfl
       try simp only [List.getElem_toArray, List.getElem_cons_succ, List.getElem_cons_zero, Act.put, List.setIfInBounds_toArray, List.set_cons_zero, List.set_cons_succ]
       refine wpAnyH_done (by kernel_rfl) ?_ _
       clear hHo
       go_wp2_with fail
       go_meet
       case rel => exact ⟨vb, hy, bs, rfl, rfl, HVO, HBF⟩
   · go_simp
     have hba : Below w9.heap.size w9.drew ((w9.alloc (.cells #[.int .i64 0, .int .i64 0, .string { data := #[] }, .slice none 0 0, .int .i64 0, .int .i64 0, .slice none 0 0] valT)).drew) := (Below.refl w9.drew.heap.size w9.drew).alloc (Nat.le_refl _) (.cells #[.int .i64 0, .int .i64 0, .string { data := #[] }, .slice none 0 0, .int .i64 0, .int .i64 0, .slice none 0 0] valT)
     have hC' : Below w9.heap.size w9 ((w9.alloc (.cells #[.int .i64 0, .int .i64 0, .string { data := #[] }, .slice none 0 0, .int .i64 0, .int .i64 0, .slice none 0 0] valT)).drew) := hC.trans (hba.mono hC.size)
     have ub : ((w9.alloc (.cells #[.int .i64 0, .int .i64 0, .string { data := #[] }, .slice none 0 0, .int .i64 0, .int .i64 0, .slice none 0 0] valT)).drew).heap[w9.heap.size]? = some (.cells #[.int .i64 0, .int .i64 0, .string { data := #[] }, .slice none 0 0, .int .i64 0, .int .i64 0, .slice none 0 0] valT (0, 0)) := heap_alloc_new w9.drew (.cells #[.int .i64 0, .int .i64 0, .string { data := #[] }, .slice none 0 0, .int .i64 0, .int .i64 0, .slice none 0 0] valT)
     obtain ⟨vb, hvbe⟩ : ∃ vb, vb = w9.heap.size := ⟨_, rfl⟩
     have hvb : w9.heap.size ≤ vb := by rw [hvbe]; exact hC.size
     have vu0 := (hba.block _ (row_lt u0)).trans u0
     have vu1 := (hba.block _ (row_lt u1)).trans u1
     clear u0 u1
     have u0 := vu0
     clear vu0
     have u1 := vu1
     clear vu1
     clear hba hC
     rw [← hvbe] at ub ⊢
     clear hvbe
     generalize ((w9.alloc (.cells #[.int .i64 0, .int .i64 0, .string { data := #[] }, .slice none 0 0, .int .i64 0, .int .i64 0, .slice none 0 0] valT)).drew) = wa at *
     refine hK.out _ _ ⟨u0, u1⟩ (fun hHn => ?_)
     clear hK K hHo
     have hHo := hHn
     clear hHn
     try simp only [List.getElem_toArray, List.getElem_cons_succ, List.getElem_cons_zero, Act.put, List.setIfInBounds_toArray, List.set_cons_zero, List.set_cons_succ]
     have hC := hC'
     clear hC'
     refine wpAnyH_ready (rs := [1]) (by kernel_rfl) (by simp) ?_
     refine AllReadyH.cons rfl (fun K hK => ?_) AllReadyH.nil
     go_simp
     go_at_call 8
     refine (HFL.out _ (HBF9.out.trans (hC.mono HBF9.out.size))).mono ?_
     rintro e w30 ⟨g4, arr4, rfl, -, hr4, -, ha4, hb3⟩
     have hf4 := farr_flds hr4 ha4
     clear hr4 ha4
     have hC' := hC.trans (hb3.mono hC.size)
     have vu0 := (hb3.block _ (row_lt u0)).trans u0
     have vu1 := (hb3.block _ (row_lt u1)).trans u1
     have vub := (hb3.block _ (row_lt ub)).trans ub
     clear u0 u1 ub
     have u0 := vu0
     clear vu0
     have u1 := vu1
     clear vu1
     have ub := vub
     clear vub
     clear hb3 hC
     go_wp2_with fail
     refine hK.out _ _ ⟨u0, u1⟩ (fun hHn => ?_)
     clear hK K hHo
     have hHo := hHn
     clear hHn
     try simp only [List.getElem_toArray, List.getElem_cons_succ, List.getElem_cons_zero, Act.put, List.setIfInBounds_toArray, List.set_cons_zero, List.set_cons_succ]
     have hC := hC'
     clear hC'
     refine wpAnyH_ready (rs := [3]) (by kernel_rfl) (by simp) ?_
     refine AllReadyH.cons rfl (fun K hK => ?_) AllReadyH.nil
     go_simp
     go_at_call 9
     refine (HTN.out _ (HBF9.out.trans (hC.mono HBF9.out.size))).mono ?_
     rintro e w31 ⟨g2, bs2, rfl, ho2, -, -, hb3⟩
     have hC' := hC.trans (hb3.mono hC.size)
     have vu0 := (hb3.block _ (row_lt u0)).trans u0
     have vu1 := (hb3.block _ (row_lt u1)).trans u1
     have vub := (hb3.block _ (row_lt ub)).trans ub
     have vhf4 := hf4.below hb3
     clear u0 u1 ub hf4
     have u0 := vu0
     clear vu0
     have u1 := vu1
     clear vu1
     have ub := vub
     clear vub
     have hf4 := vhf4
     clear vhf4
     clear hb3 hC
     go_wp2_with fail
     refine hK.out _ _ ⟨u0, u1⟩ (fun hHn => ?_)
     clear hK K hHo
     have hHo := hHn
     clear hHn
     try simp only [List.getElem_toArray, List.getElem_cons_succ, List.getElem_cons_zero, Act.put, List.setIfInBounds_toArray, List.set_cons_zero, List.set_cons_succ]
     have hC := hC'
     clear hC'
     refine wpAnyH_ready (rs := [5]) (by kernel_rfl) (by simp) ?_
     refine AllReadyH.cons rfl (fun K hK => ?_) AllReadyH.nil
     go_simp
     go_at_call 10
     refine (HIA.out _ (HBF9.out.trans (hC.mono HBF9.out.size)) _ (some ⟨g4, 0, none⟩) l.length g2 (Nat.le_refl _) hf4 ho2.nd).mono ?_
     rintro e w32 ⟨hy, bs, rfl, hov, hnd, hg, hb3⟩
     clear ho2 hf4
     have hC' := hC.trans (hb3.mono hC.size)
     have hgs : w9.heap.size ≤ w31.heap.size := hC.size
     have hlt := fun b hb => (hov.lt b hb).1
     have hvl := row_lt ub
     have hfar : ∀ b ∈ bs, w9.heap.size ≤ b ∧ b ≠ vb := fun b hb => ⟨by have := hg b hb; omega, by have := hg b hb; omega⟩
     have vu0 := (hb3.block _ (row_lt u0)).trans u0
     have vu1 := (hb3.block _ (row_lt u1)).trans u1
     have vub := (hb3.block _ (row_lt ub)).trans ub
     clear u0 u1 ub
     have u0 := vu0
     clear vu0
     have u1 := vu1
     clear vu1
     have ub := vub
     clear vub
     clear hb3 hC
     go_wp2_with fail
     refine hK.out _ _ ⟨u0, u1⟩ (fun hHn => ?_)
     clear hK K hHo
     have hHo := hHn
     clear hHn
     try simp only [List.getElem_toArray, List.getElem_cons_succ, List.getElem_cons_zero, Act.put, List.setIfInBounds_toArray, List.set_cons_zero, List.set_cons_succ]
     have hC := hC'
     clear hC'
     refine wpAnyH_take (i := 6) (v := ?_) rfl (by kernel_rfl) (by kernel_rfl) (by kernel_rfl) (fun _ _ _ h => h) (Or.inl ⟨by rfl, ?_⟩) (by assumption) ?_
     rotate_left
     · intro w hSw
       (try dsimp only at hSw)
       go_simp
       try with_reducible rfl
     try simp only [List.getElem_toArray, List.getElem_cons_succ, List.getElem_cons_zero, Act.put, List.setIfInBounds_toArray, List.set_cons_zero, List.set_cons_succ]
     refine wpAnyH_take (i := 7) (v := ?_) rfl (by kernel_rfl) (by kernel_rfl) (by kernel_rfl) (fun _ _ _ h => h) (Or.inl ⟨by rfl, ?_⟩) (by assumption) ?_
     rotate_left
     · intro w hSw
       (try dsimp only at hSw)
       go_simp
       try with_reducible rfl
     try simp only [List.getElem_toArray, List.getElem_cons_succ, List.getElem_cons_zero, Act.put, List.setIfInBounds_toArray, List.set_cons_zero, List.set_cons_succ]
     refine wpAnyH_take (i := 8) (v := ?_) rfl (by kernel_rfl) (by kernel_rfl) (by kernel_rfl) (fun _ _ _ h => h) (Or.inl ⟨by rfl, ?_⟩) (by assumption) ?_
     rotate_left
     · intro w hSw
       (try dsimp only at hSw)
       go_simp
       try with_reducible rfl
     try simp only [List.getElem_toArray, List.getElem_cons_succ, List.getElem_cons_zero, Act.put, List.setIfInBounds_toArray, List.set_cons_zero, List.set_cons_succ]
     refine wpAnyH_ready (rs := [10]) (by kernel_rfl) (by simp) ?_
     refine AllReadyH.cons rfl (fun K hK => ?_) AllReadyH.nil
     obtain ⟨z0, z1, z2', z3, z4, z5, z6⟩ := cellsV ub
     have zf := row_free ub
     go_simp
     obtain ⟨wf, hwf, hrw, hbf, hkf⟩ := finV (w := w9) (R := w9.heap.size) (.int .i64 x) (.int .i64 y.kind) (.string y.data) (.slice hy.A y.ptrs.length hy.a) (.int .i64 y.size) (.int .i64 y.count) (.slice hy.B y.items.length hy.b) ub hC hvb
     have HWF := Lib.hid hwf
     have HVO : Hid (ValO (m + 1) x y w9.heap.size wf vb hy bs) := Lib.hid ⟨hrw, hov.frame (fun b hb => hkf b (hfar b hb).2), hnd, hfar, hvb⟩
     have HBF := Lib.hid hbf
     have x0 := (hbf.block _ (row_lt E1.out)).trans E1.out
     have x1 := (hbf.block _ (row_lt E1.out)).trans E1.out
     clear hwf z0 z1 z2' z3 z4 z5 z6 zf ub hC hkf hrw hbf hov hfar hnd hg hlt hgs hvb
     rw [HWF.out]
     refine hK.out _ _ ⟨x0, x1⟩ (fun hHn => ?_)
     clear HWF x0 x1
     clear hK K hHo
     have hHo := hHn
     clear hHn
     try simp only [List.getElem_toArray, List.getElem_cons_succ, List.getElem_cons_zero, Act.put, List.setIfInBounds_toArray, List.set_cons_zero, List.set_cons_succ]
     refine wpAnyH_take (i := 11) (v := ?_) rfl (by kernel_rfl) (by kernel_rfl) (by kernel_rfl) (fun _ _ _ h => h) (Or.inl ⟨by rfl, ?_⟩) (by assumption) ?_
     rotate_left
     · intro w hSw
       (try dsimp only at hSw)
       go_simp
       try with_reducible rfl
     try simp only [List.getElem_toArray, List.getElem_cons_succ, List.getElem_cons_zero, Act.put, List.setIfInBounds_toArray, List.set_cons_zero, List.set_cons_succ]
     refine wpAnyH_done (by kernel_rfl) ?_ _
     clear hHo
     go_wp2_with fail
     go_meet
     case rel => exact ⟨vb, hy, bs, rfl, rfl, HVO, HBF⟩
  case rest =>
   obtain ⟨vh, hh, bsh, rfl, rfl, HH, HC9⟩ := hcut
   have HVZ := Lib.hid (HVE.out.below HC9.out)
   have HGZ := Lib.hid ((HC9.out.block _ (row_lt HGE.out)).trans HGE.out)
   have HBZ := Lib.hid (HBF9.out.trans (HC9.out.mono HBF9.out.size))
   have HKZ := Lib.hid (HK9.out.trans (HC9.out.mono HK9.out.size))
   obtain ⟨v0, v1, v2, v3, v4, v5, v6⟩ := cellsV HVZ.out.row
   obtain ⟨y0, y1, y2, y3, y4, y5, y6⟩ := cellsV HH.out.row
   have HQ := Lib.hid (HEV.out _ _ _ hh hw HH.out.own.nd HVZ.out.own.nd)
   go_wp2_with fail
   refine HQ.out.mono ?_
   rintro e wy ⟨rfl, hby⟩
   clear v0 v1 v2 v3 v4 v5 v6 y0 y1 y2 y3 y4 y5 y6 HQ
   have HBY := Lib.hid (HBZ.out.trans (hby.mono HBZ.out.size))
   have HKY := Lib.hid (HKZ.out.trans (hby.mono HKZ.out.size))
   have hgy := (hby.block _ (row_lt HGZ.out)).trans HGZ.out
   obtain ⟨y0, y1, y2, y3, y4, y5, y6⟩ := cellsV hgy
   clear hby hgy
   go_wp2_with fail
   refine (HHE.out _ HKY.out).mono ?_
   rintro e wz ⟨rfl, hbz⟩
   clear y0 y1 y2 y3 y4 y5 y6
   have HBW := Lib.hid (HBY.out.trans (hbz.mono HBY.out.size))
   clear hbz
   go_wp2
   go_ret
   exact ⟨rfl, HBW.out⟩
end Go.Proofs.YtehhbbdaeonebaaGreatDoor
