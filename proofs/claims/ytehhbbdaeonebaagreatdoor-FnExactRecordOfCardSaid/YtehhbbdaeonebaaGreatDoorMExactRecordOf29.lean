/- Texts of the proof of the law FnExactRecordOf, side by side: part 29. -/
import Derived.Test.YtehhbbdaeonebaaGreatDoorMExactRecordOf28
set_option maxHeartbeats 8000000
set_option maxRecDepth 100000
namespace Go.Proofs.YtehhbbdaeonebaaGreatDoor
open Go.RowKit Go.Deep
def NewV (m : Nat) (x : Int) (n : Nd) (w : World) (e : Ending) (w' : World) : Prop := ∃ (h : Hd) (bs : List Nat), e = .returned (valV x n h) ∧ OwN w' m n h bs ∧ bs.Nodup ∧ (∀ b ∈ bs, w.heap.size ≤ b) ∧ Below w.heap.size w w'
def NewVs (m : Nat) (vs : List Vl) (w : World) (e : Ending) (w' : World) : Prop := ∃ (g : Nat) (bs : List Nat), e = .returned (.slice (some ⟨g, 0, none⟩) vs.length vs.length) ∧ VsO w' m g vs bs ∧ bs.Nodup ∧ (∀ b ∈ bs, w.heap.size ≤ b) ∧ Below w.heap.size w w'
theorem toVal_a (m : Nat) (x : Int) (n : Nd) (h : Hd) (w : World) (S : Nat → Prop) (hn : NdAt w S m n h) (ht : totN m n ≤ 2000000) :
 Calls Tryz.prog 51 #[valV x n h] w (NewV m x n w) := by
 have HTN := Lib.hid (fun (W : World) (hW : Below w.heap.size w W) => toNO_any m n h W S (hn.below hW) ht)
 clear hn ht
 unfold NewO at HTN
 unfold NewV
 have q0 := al_first w (.cells #[.int .i64 x, .int .i64 n.kind, .string n.data, .slice h.A n.ptrs.length h.a, .int .i64 n.size, .int .i64 n.count, .slice h.B n.items.length h.b] lvT)
 have q1 := al_next q0 (.cells #[.int .i64 0, .int .i64 0, .string { data := #[] }, .slice none 0 0, .int .i64 0, .int .i64 0, .slice none 0 0] valT)
 have q2 := al_next q1 (.cells #[.int .i64 x, .int .i64 0, .string { data := #[] }, .slice none 0 0, .int .i64 0, .int .i64 0, .slice none 0 0] valT)
 have r1 := heap_alloc_keep (al_row q0 #[.int .i64 0, .int .i64 0, .string { data := #[] }, .slice none 0 0, .int .i64 0, .int .i64 0, .slice none 0 0] valT) (.cells #[.int .i64 x, .int .i64 0, .string { data := #[] }, .slice none 0 0, .int .i64 0, .int .i64 0, .slice none 0 0] valT)
 have r2 := al_row q1 #[.int .i64 x, .int .i64 0, .string { data := #[] }, .slice none 0 0, .int .i64 0, .int .i64 0, .slice none 0 0] valT
 rw [show w.heap.size + (1 + 1) = w.heap.size + 1 + 1 from rfl] at r2
 have HB := Lib.hid q2.2
 have HR1 := Lib.hid r1
 have HR2 := Lib.hid r2
 have HS3 := Lib.hid q2.1
 clear q0 q1 q2 r1 r2
 go_enter Tryz.func51, Tryz.ntmps51
 go_wp2_with fail
 generalize ((w.alloc (.cells #[.int .i64 x, .int .i64 n.kind, .string n.data, .slice h.A n.ptrs.length h.a, .int .i64 n.size, .int .i64 n.count, .slice h.B n.items.length h.b] lvT)).alloc (.cells #[.int .i64 0, .int .i64 0, .string { data := #[] }, .slice none 0 0, .int .i64 0, .int .i64 0, .slice none 0 0] valT)).alloc (.cells #[.int .i64 x, .int .i64 0, .string { data := #[] }, .slice none 0 0, .int .i64 0, .int .i64 0, .slice none 0 0] valT) = W3 at *
 refine (HTN.out _ HB.out).mono ?_
 rintro e w2 ⟨h2, bs2, rfl, ho2, hd2, hg2, hb2⟩
 replace HR1 := Lib.hid ((hb2.block _ (row_lt HR1.out)).trans HR1.out)
 replace HR2 := Lib.hid ((hb2.block _ (row_lt HR2.out)).trans HR2.out)
 replace HB := Lib.hid (HB.out.trans (hb2.mono HB.out.size))
 have HO := Lib.hid ho2
 have HD := Lib.hid (And.intro hd2 hg2)
 obtain ⟨b0, b1, b2, b3, b4, b5, b6⟩ := cellsV HR2.out
 have f2 := row_free HR2.out
 clear hb2 ho2 hd2 hg2
 obtain ⟨wa, hwa⟩ : ∃ wa, ((((((w2.setCell ⟨w.heap.size + 1 + 1, 1, none⟩ (.int .i64 n.kind)).setCell ⟨w.heap.size + 1 + 1, 2, none⟩ (.string n.data)).setCell ⟨w.heap.size + 1 + 1, 3, none⟩ (.slice h2.A n.ptrs.length h2.a)).setCell ⟨w.heap.size + 1 + 1, 4, none⟩ (.int .i64 n.size)).setCell ⟨w.heap.size + 1 + 1, 5, none⟩ (.int .i64 n.count)).setCell ⟨w.heap.size + 1 + 1, 6, none⟩ (.slice h2.B n.items.length h2.b)) = wa := ⟨_, rfl⟩
 have hra : wa.heap[w.heap.size + 1 + 1]? = some (.cells #[.int .i64 x, .int .i64 n.kind, .string n.data, .slice h2.A n.ptrs.length h2.a, .int .i64 n.size, .int .i64 n.count, .slice h2.B n.items.length h2.b] valT (0, 0)) := by
  rw [← hwa]
  exact row_setN (row_setN (row_setN (row_setN (row_setN (row_setN HR2.out 1 _) 2 _) 3 _) 4 _) 5 _) 6 _
 have hka : ∀ k, k ≠ w.heap.size + 1 + 1 → wa.heap[k]? = w2.heap[k]? := fun k hk => by
  rw [← hwa, Below.heap_setCell _ _ _ _ hk, Below.heap_setCell _ _ _ _ hk, Below.heap_setCell _ _ _ _ hk, Below.heap_setCell _ _ _ _ hk, Below.heap_setCell _ _ _ _ hk, Below.heap_setCell _ _ _ _ hk]
 have hba : Below w.heap.size w wa := by
  rw [← hwa]
  exact (((((HB.out.setCell (p := ⟨w.heap.size + 1 + 1, 1, none⟩) (by simp; omega) _).setCell (p := ⟨w.heap.size + 1 + 1, 2, none⟩) (by simp; omega) _).setCell (p := ⟨w.heap.size + 1 + 1, 3, none⟩) (by simp; omega) _).setCell (p := ⟨w.heap.size + 1 + 1, 4, none⟩) (by simp; omega) _).setCell (p := ⟨w.heap.size + 1 + 1, 5, none⟩) (by simp; omega) _).setCell (p := ⟨w.heap.size + 1 + 1, 6, none⟩) (by simp; omega) _
 have HRA := Lib.hid hra
 have HKA := Lib.hid hka
 have HBA := Lib.hid hba
 have HWA := Lib.hid hwa
 clear hra hka hba hwa
 go_upto_region 4 with fail
 rw [HWA.out]
 have hr1 := (HKA.out _ (by omega)).trans HR1.out
 obtain ⟨wf, hwf, hrw, hbf, hkf⟩ := finV (w := w) (R := w.heap.size) (.int .i64 x) (.int .i64 n.kind) (.string n.data) (.slice h2.A n.ptrs.length h2.a) (.int .i64 n.size) (.int .i64 n.count) (.slice h2.B n.items.length h2.b) hr1 HBA.out (by omega)
 obtain ⟨a0, a1, a2, a3, a4, a5, a6⟩ := cellsV HRA.out
 obtain ⟨c0, c1, c2, c3, c4, c5, c6⟩ := cellsV hr1
 have f1 := row_free hr1
 obtain ⟨d0, d1, d2, d3, d4, d5, d6⟩ := cellsV hrw
 have HWF := Lib.hid hwf
 have HF : Hid (OwN wf m n h2 bs2) := Lib.hid (HO.out.frame (fun b hb => by
  have h1 := HD.out.2 b hb
  have h2 := HS3.out
  rw [hkf b (by omega), HKA.out b (by omega)]))
 have HBF := Lib.hid hbf
 clear b0 b1 b2 b3 b4 b5 b6 f2 hwf hrw hbf hkf hr1
 go_wp2
 rw [HWF.out]
 exact bodyPost_ret (v := valV x n h2) (by simp [results, Tryz.results51, go_sem, d0, d1, d2, d3, d4, d5, d6]) rfl ⟨h2, bs2, rfl, HF.out, HD.out.1, fun b hb => by have h1 := HD.out.2 b hb; have h2 := HS3.out; omega, HBF.out⟩
def ToRV (vs : List Vl) (B m k : Nat) (wr : World) : Prop := ∃ (arr : Array Value) (q : List VB), wr.heap[B]? = some (.cells arr valT (0, 0)) ∧ arr.size = vs.length * 7 ∧ q.map (·.1) = vs.take k ∧ (∀ (j : Nat) (r : VB), q[j]? = some r → C7 arr (j * 7) r) ∧ (∀ r ∈ q, OwN wr m r.1.nd r.2.1 r.2.2) ∧ (blkV q).Nodup ∧ ∀ b ∈ blkV q, B + 1 ≤ b
theorem ToRV.done {vs : List Vl} {B m : Nat} {wr : World} (h : ToRV vs B m vs.length wr) : ∃ bs, VsO wr m B vs bs ∧ bs.Nodup ∧ ∀ b ∈ bs, B ≤ b := by
 obtain ⟨arr, q, hrow, hsz, hq, hc, hqn, hqd, hqb⟩ := h
 rw [List.take_of_length_le (Nat.le_refl _)] at hq
 refine ⟨B :: blkV q, ⟨q, arr, hq, rfl, hrow, hsz, hc, hqn⟩, List.nodup_cons.2 ⟨fun hm => by have := hqb B hm; omega, hqd⟩, fun b hb => ?_⟩
 rcases List.mem_cons.1 hb with rfl | hb
 · exact Nat.le_refl _
 · have := hqb b hb
   omega
theorem blkV_snoc (q : List VB) (r : VB) : blkV (q ++ [r]) = blkV q ++ r.2.2 := by unfold blkV; rw [List.flatMap_append]; simp
theorem infoVal : (Tryz.prog.info? valT).map (fun i => (i.zero, i.size, i.bytes)) = some (some (.agg #[.int .i64 0, .int .i64 0, .string ByteArray.empty, .slice none 0 0, .int .i64 0, .int .i64 0, .slice none 0 0]), 7, 96) := by kernel_rfl
abbrev valsT : TypeId := 49
theorem toValS_any (m : Nat) (A : Option Addr) (c : Nat) (vs : List Vl) (w : World) (S : Nat → Prop) (hvs : ValsAt w S m A vs) (hlm : vs.length ≤ 2000000) (ht : ∀ v ∈ vs, totN m v.nd ≤ 2000000) :
 Calls Tryz.prog 20 #[.slice A vs.length c] w (NewVs m vs w) := by
 obtain ⟨i0, hi, hz0, hz1, hz2⟩ := info_parts infoVal
 have hmk : ∀ w : World, (Instr.makeSlice valsT (.int .i64 (vs.length : Int)) (.int .i64 (vs.length : Int))).run Tryz.prog w = .ok (.slice (some ⟨w.heap.size, 0, none⟩) vs.length vs.length) (w.alloc (.cells (madeCells #[.int .i64 0, .int .i64 0, .string ByteArray.empty, .slice none 0 0, .int .i64 0, .int .i64 0, .slice none 0 0] (vs.length * 7)) valT)) := fun w => by
  have := run_make (P := Tryz.prog) w valsT valT i0 _ Tryz.underlying49 hi hz0 .i64 .i64 (vs.length : Int) (vs.length : Int) (by omega) (Int.le_refl _) (by rw [hz2]; omega) (by omega)
  rw [hz1] at this
  simp only [Int.toNat_natCast] at this
  exact this
 have HF := Lib.hid hvs
 have HT := Lib.hid ht
 clear hvs ht
 unfold NewVs
 go_enter Tryz.func20, Tryz.ntmps20
 go_wp2
 have HROW := Lib.hid (heap_alloc_new w (.cells (madeCells #[.int .i64 0, .int .i64 0, .string ByteArray.empty, .slice none 0 0, .int .i64 0, .int .i64 0, .slice none 0 0] (vs.length * 7)) valT))
 obtain ⟨x, hx⟩ : ∃ x : Addr, x = ⟨w.heap.size, 0, none⟩ := ⟨_, rfl⟩
 rw [← hx]
 have HX := Lib.hid hx
 clear hx hmk
 go_loopw [4] (fun i wr => ∃ k : Nat, i = .int .i64 k ∧ k ≤ vs.length ∧ Hid (ToRV vs w.heap.size m k wr) ∧ Hid (Below w.heap.size w wr)) (fun i _ => vs.length - (intOf i).toNat)
 case atStart => exact ⟨0, rfl, by omega, Lib.hid ⟨_, [], HROW.out, by rw [size_madeCells], rfl, fun j r h => by simp at h, fun r h => (by cases h), List.nodup_nil, fun b h => (by cases h)⟩, Lib.hid ((Below.refl _ _).alloc (Nat.le_refl _) _)⟩
 case round =>
  obtain ⟨k, rfl, hk, HA, HB⟩ := hrel
  by_cases hlt : k < vs.length
  · obtain ⟨y, hd, rfl, hyb, hva⟩ := (HF.out.below HB.out).at_ hlt
    obtain ⟨arr, q, hrow, hsz, hq, harr, hqn, hqd, hqb⟩ := HA.out
    have hql : q.length = k := by have := congrArg List.length hq; simp at this; omega
    have htk : vs.take (k + 1) = vs.take k ++ [vs[k]] := List.take_succ_eq_append_getElem hlt
    have htn := HT.out _ (List.getElem_mem hlt)
    obtain ⟨n9, d9, hd9⟩ : ∃ n9 d9, vs[k] = Vl.mk n9 d9 := ⟨_, _, rfl⟩
    rw [hd9] at hva htk htn
    clear hd9
    have hrlt := row_lt hrow
    have HP := Lib.hid (toVal_a m n9 d9 hd wr S hva.nd htn)
    obtain ⟨d0, d1, d2, d3, d4, d5, d6⟩ := hva.cells
    have HROWK := Lib.hid hrow
    have HSZ := Lib.hid hsz
    have HQ := Lib.hid (And.intro hq (And.intro harr (And.intro hqn (And.intro hql htk))))
    have HQD := Lib.hid (And.intro hqd hqb)
    clear hq harr hqn hql htk hva htn hqd hqb
    unfold NewV at HP
    go_wp2_with fail
    refine HP.out.mono ?_
    rintro e w2 ⟨h2, bs2, rfl, hn2, hnd2, hge2, hb2⟩
    clear d0 d1 d2 d3 d4 d5 d6
    have hrow2 := (hb2.block w.heap.size hrlt).trans HROWK.out
    obtain ⟨v0, hv0⟩ := some_at0 (i := k * 7) hsz (by omega)
    obtain ⟨v1, hv1⟩ := some_at0 (i := k * 7 + 1) hsz (by omega)
    obtain ⟨v2, hv2⟩ := some_at0 (i := k * 7 + 2) hsz (by omega)
    obtain ⟨v3, hv3⟩ := some_at0 (i := k * 7 + 3) hsz (by omega)
    obtain ⟨v4, hv4⟩ := some_at0 (i := k * 7 + 4) hsz (by omega)
    obtain ⟨v5, hv5⟩ := some_at0 (i := k * 7 + 5) hsz (by omega)
    obtain ⟨v6, hv6⟩ := some_at0 (i := k * 7 + 6) hsz (by omega)
    have hadd : x.add (k * 7) = ⟨w.heap.size, k * 7, none⟩ := by rw [HX.out, add_zero0]
    have p0 : w2.cell? ⟨w.heap.size, k * 7, none⟩ = some v0 := by rw [cell_of_row _ _ _ _ _ _ hrow2]; exact hv0
    have p1 : w2.cell? ⟨w.heap.size, k * 7 + 1, none⟩ = some v1 := by rw [cell_of_row _ _ _ _ _ _ hrow2]; exact hv1
    have p2 : w2.cell? ⟨w.heap.size, k * 7 + 2, none⟩ = some v2 := by rw [cell_of_row _ _ _ _ _ _ hrow2]; exact hv2
    have p3 : w2.cell? ⟨w.heap.size, k * 7 + 3, none⟩ = some v3 := by rw [cell_of_row _ _ _ _ _ _ hrow2]; exact hv3
    have p4 : w2.cell? ⟨w.heap.size, k * 7 + 4, none⟩ = some v4 := by rw [cell_of_row _ _ _ _ _ _ hrow2]; exact hv4
    have p5 : w2.cell? ⟨w.heap.size, k * 7 + 5, none⟩ = some v5 := by rw [cell_of_row _ _ _ _ _ _ hrow2]; exact hv5
    have p6 : w2.cell? ⟨w.heap.size, k * 7 + 6, none⟩ = some v6 := by rw [cell_of_row _ _ _ _ _ _ hrow2]; exact hv6
    have z0 := row_free hrow2
    have HR2 := Lib.hid hrow2
    have HB2 := Lib.hid (HB.out.trans (hb2.mono HB.out.size))
    have HN2 := Lib.hid hn2
    have HD2 := Lib.hid (And.intro hnd2 hge2)
    have HQ2 : Hid (∀ r ∈ q, OwN w2 m r.1.nd r.2.1 r.2.2) := Lib.hid fun r hr => (HQ.out.2.2.1 r hr).below hb2
    have HQL : Hid (∀ b ∈ blkV q, b < wr.heap.size) := Lib.hid fun b hb => by
     obtain ⟨r, hr, hbr⟩ := List.mem_flatMap.1 hb
     exact ((HQ.out.2.2.1 r hr).lt b hbr).1
    clear hnd2 hge2 hrow hsz hrow2 hb2 hv0 hv1 hv2 hv3 hv4 hv5 hv6 hn2
    go_wp2
    go_roundw
    case rel =>
     refine ⟨k + 1, by go_num, by omega, Lib.hid ⟨put7 arr (k * 7) (⟨n9, d9⟩, h2, bs2), q ++ [(⟨n9, d9⟩, h2, bs2)], row_setN (row_setN (row_setN (row_setN (row_setN (row_setN (row_setN HR2.out (k * 7) _) (k * 7 + 1) _) (k * 7 + 2) _) (k * 7 + 3) _) (k * 7 + 4) _) (k * 7 + 5) _) (k * 7 + 6) _, by rw [put7_size]; exact HSZ.out, ?_, ?_, ?_, ?_, ?_⟩, Lib.hid ?_⟩
     · rw [List.map_append, HQ.out.1, HQ.out.2.2.2.2]; rfl
     · intro j r hj
       by_cases hjk : j < q.length
       · rw [List.getElem?_append_left hjk] at hj
         have := HQ.out.2.2.2.1
         exact (HQ.out.2.1 j r hj).keep (by omega)
       · rw [List.getElem?_append_right (by omega)] at hj
         have hq0 := HQ.out.2.2.2.1
         have hjl : j - q.length = 0 := by
          rcases Nat.eq_zero_or_pos (j - q.length) with h | h
          · exact h
          · rw [List.getElem?_eq_none (by simp only [List.length_singleton]; omega)] at hj; cases hj
         rw [hjl] at hj
         obtain rfl : ((⟨n9, d9⟩, h2, bs2) : VB) = r := by simpa using hj
         obtain rfl : j = k := by omega
         exact C7.put (by rw [HSZ.out]; omega)
     · have hu := ((((((((Upon.refl (w.heap.size + 1) w2).setCell (p := ⟨w.heap.size, k * 7, none⟩) (by simp) (.int .i64 n9)).setCell (p := ⟨w.heap.size, k * 7 + 1, none⟩) (by simp) (.int .i64 d9.kind)).setCell (p := ⟨w.heap.size, k * 7 + 2, none⟩) (by simp) (.string d9.data)).setCell (p := ⟨w.heap.size, k * 7 + 3, none⟩) (by simp) (.slice h2.A d9.ptrs.length h2.a)).setCell (p := ⟨w.heap.size, k * 7 + 4, none⟩) (by simp) (.int .i64 d9.size)).setCell (p := ⟨w.heap.size, k * 7 + 5, none⟩) (by simp) (.int .i64 d9.count)).setCell (p := ⟨w.heap.size, k * 7 + 6, none⟩) (by simp) (.slice h2.B d9.items.length h2.b))
       intro r hr
       rcases List.mem_append.1 hr with hr | hr
       · exact (HQ2.out r hr).frame (fun b hb => hu.block b (HQD.out.2 b (List.mem_flatMap.2 ⟨r, hr, hb⟩)) ((HQ2.out r hr).lt b hb).1)
       · obtain rfl := List.mem_singleton.1 hr
         exact HN2.out.frame (fun b hb => hu.block b (by have := HD2.out.2 b hb; omega) (HN2.out.lt b hb).1)
     · rw [blkV_snoc]
       exact List.nodup_append.2 ⟨HQD.out.1, HD2.out.1, fun a ha b hb e => by have := HQL.out a ha; have := HD2.out.2 b hb; omega⟩
     · intro b hb
       rw [blkV_snoc] at hb
       rcases List.mem_append.1 hb with hb | hb
       · exact HQD.out.2 b hb
       · have := HD2.out.2 b hb
         omega
     · exact ((((((HB2.out.setCell (p := ⟨w.heap.size, k * 7, none⟩) (Nat.le_refl _) _).setCell (p := ⟨w.heap.size, k * 7 + 1, none⟩) (Nat.le_refl _) _).setCell (p := ⟨w.heap.size, k * 7 + 2, none⟩) (Nat.le_refl _) _).setCell (p := ⟨w.heap.size, k * 7 + 3, none⟩) (Nat.le_refl _) _).setCell (p := ⟨w.heap.size, k * 7 + 4, none⟩) (Nat.le_refl _) _).setCell (p := ⟨w.heap.size, k * 7 + 5, none⟩) (Nat.le_refl _) _).setCell (p := ⟨w.heap.size, k * 7 + 6, none⟩) (Nat.le_refl _) _
    case measure => simp [intOf]; omega
  · obtain rfl : k = vs.length := by omega
    have HRES := Lib.hid HA.out.done
    have HX2 := HX
    clear HA
    go_wp2
    go_ret
    rw [HX2.out]
    obtain ⟨bs, o1, o2, o3⟩ := HRES.out
    exact ⟨_, bs, rfl, o1, o2, o3, HB.out⟩
theorem eqValS_any (m : Nat) (A B : Option Addr) (c c' : Nat) (vs : List Vl) (w : World) (S S' : Nat → Prop) (h : ValsAt w S m A vs) (h' : ValsAt w S' m B vs) (hlm : vs.length ≤ 2000000) (ht : ∀ v ∈ vs, totN m v.nd ≤ 2000000) :
 Calls Tryz.prog 22 #[.slice A vs.length c, .slice B vs.length c'] w fun e w' => e = .returned (.bool true) ∧ Below w.heap.size w w' := by
 have HF := Lib.hid h
 have HG := Lib.hid h'
 have HT := Lib.hid ht
 clear h h' ht
 go_enter Tryz.func22, Tryz.ntmps22
 go_wp2
 go_loopw [5] (fun i wr => ∃ k : Nat, i = .int .i64 k ∧ k ≤ vs.length ∧ Hid (Below w.heap.size w wr)) (fun i _ => vs.length - (intOf i).toNat)
 case atStart => exact ⟨0, rfl, by omega, Lib.hid (Below.refl _ _)⟩
 case round =>
  obtain ⟨k, rfl, hk, HB⟩ := hrel
  by_cases hlt : k < vs.length
  · obtain ⟨x, hx, rfl, hxb, vx⟩ := (HF.out.below HB.out).at_ hlt
    obtain ⟨y, hy, rfl, hyb, vy⟩ := (HG.out.below HB.out).at_ hlt
    have htn := HT.out _ (List.getElem_mem hlt)
    obtain ⟨n9, d9, hd9⟩ : ∃ n9 d9, vs[k] = Vl.mk n9 d9 := ⟨_, _, rfl⟩
    rw [hd9] at vx vy htn
    clear hd9
    have hd1 : Below wr.heap.size wr wr.drew := ⟨rfl, rfl, rfl, Nat.le_refl _, fun _ _ => rfl⟩
    have HP := Lib.hid (eqVal_a m n9 d9 hx hy wr.drew S S' (vx.nd.below hd1) (vy.nd.below hd1) htn)
    obtain ⟨c0, c1, c2, c3, c4, c5, c6⟩ := vx.cells
    obtain ⟨d0, d1, d2, d3, d4, d5, d6⟩ := vy.cells
    have hk2 : (k : Int) < (vs.length : Int) := by omega
    have hs := HB.out.size
    clear vx vy htn
    go_wp2
    go_region_with (go_at_call 11; refine HP.out.mono ?_; rintro e w2 ⟨rfl, hb2⟩)
    all_goals
     have HB2 := Lib.hid (HB.out.trans ((show Below w.heap.size wr wr.drew from ⟨rfl, rfl, rfl, Nat.le_refl _, fun _ _ => rfl⟩).trans (hb2.mono (by simpa using hs))))
     clear hb2
     go_wp2
     go_roundw
     case rel => exact ⟨k + 1, by go_num, by omega, HB2⟩
     case measure => simp [intOf]; omega
  · obtain rfl : k = vs.length := by omega
    go_wp2
    go_ret
    exact ⟨rfl, HB.out⟩
theorem blkV_at : ∀ {q : List VB}, (blkV q).Nodup → ∀ {k : Nat} {r : VB}, q[k]? = some r → r.2.2.Nodup ∧ ∀ (j : Nat) (r' : VB), j ≠ k → q[j]? = some r' → ∀ b ∈ r.2.2, b ∉ r'.2.2
 | [], _, k, r, h => by simp at h
 | a :: t, hnd, k, r, h => by
   have hc : blkV (a :: t) = a.2.2 ++ blkV t := rfl
   rw [hc] at hnd
   obtain ⟨h1, h2, h3⟩ := List.nodup_append.1 hnd
   have hin : ∀ (j : Nat) (r' : VB), t[j]? = some r' → ∀ b ∈ r'.2.2, b ∈ blkV t := fun (j : Nat) (r' : VB) (hj : t[j]? = some r') b hb => List.mem_flatMap.2 ⟨r', List.mem_of_getElem? hj, hb⟩
   cases k with
   | zero =>
    obtain rfl : a = r := by simpa using h
    refine ⟨h1, fun j r' hj hr b hb hm => ?_⟩
    cases j with
    | zero => exact absurd rfl hj
    | succ j => exact h3 b hb b (hin j r' (by simpa using hr) b hm) rfl
   | succ k =>
    have hk : t[k]? = some r := by simpa using h
    obtain ⟨g1, g2⟩ := blkV_at h2 hk
    refine ⟨g1, fun j r' hj hr b hb hm => ?_⟩
    cases j with
    | zero =>
     obtain rfl : a = r' := by simpa using hr
     exact h3 b hm b (hin k r hk b hb) rfl
    | succ j => exact g2 j r' (by omega) (by simpa using hr) b hb hm
theorem sumV_take_le (vs : List Vl) (k : Nat) : sumV (vs.take k) ≤ sumV vs := by
 conv => rhs; rw [← List.take_append_drop k vs, sumV_app]
 omega
def MkVR (q0 : List VB) (m g k n : Nat) (wr : World) : Prop := ∃ arr, wr.heap[g]? = some (.cells arr valT (0, 0)) ∧ arr.size = n * 7 ∧ ∀ j r, k ≤ j → q0[j]? = some r → C7 arr (j * 7) r ∧ OwN wr m r.1.nd r.2.1 r.2.2
theorem C7.of_eq {arr arr' : Array Value} {o : Nat} {r : VB} (h : C7 arr o r) (he : ∀ i, i < 7 → arr'[o + i]? = arr[o + i]?) : C7 arr' o r := by
 obtain ⟨h0, h1, h2, h3, h4, h5, h6⟩ := h
 exact ⟨(he 0 (by decide)).trans h0, (he 1 (by decide)).trans h1, (he 2 (by decide)).trans h2, (he 3 (by decide)).trans h3, (he 4 (by decide)).trans h4, (he 5 (by decide)).trans h5, (he 6 (by decide)).trans h6⟩
theorem markValS_any (m g c : Nat) (vs : List Vl) (bs : List Nat) (w : World) (q : Nat) (ho : VsO w m g vs bs) (hnd : bs.Nodup) (h1 : 1 ≤ q) (h2 : q + 5 * vs.length + 4 * sumV vs ≤ 100000000) :
 Calls Tryz.prog 23 #[.slice (some ⟨g, 0, none⟩) vs.length c, .int .i64 (q : Int)] w fun e w' => ∃ q' : Nat, e = .returned (.int .i64 (q' : Int)) ∧ q ≤ q' ∧ q' ≤ 100000000 ∧ OnlyIn bs w w' := by
 obtain ⟨q0, arr0, hq0, hbs, hrow, hsz, hc7, hown⟩ := ho
 have hql : q0.length = vs.length := by rw [← hq0, List.length_map]
 rw [hbs] at hnd
 have HND := Lib.hid hnd
 have HQ := Lib.hid (And.intro hq0 hql)
 have HBS := Lib.hid hbs
 have HR0 : Hid (MkVR q0 m g 0 vs.length w) := Lib.hid ⟨arr0, hrow, hsz, fun j r _ hj => ⟨hc7 j r hj, hown r (List.mem_of_getElem? hj)⟩⟩
 have hlm : vs.length ≤ 20000000 := by omega
 clear hq0 hbs hrow hsz hc7 hown hql hnd
 go_enter Tryz.func23, Tryz.ntmps23
 go_wp2_with fail
 go_loopw [1, 5] (fun u i wr => ∃ (k qq : Nat), u = .int .i64 (qq : Int) ∧ i = .int .i64 k ∧ k ≤ vs.length ∧ q ≤ qq ∧ qq ≤ q + 5 * k + 4 * sumV (vs.take k) ∧ Hid (MkVR q0 m g k vs.length wr) ∧ Hid (OnlyIn bs w wr)) (fun _ i _ => vs.length - (intOf i).toNat)
 case atStart => exact ⟨0, q, rfl, rfl, by omega, Nat.le_refl _, by omega, HR0, Lib.hid (OnlyIn.refl _ _)⟩
 case round =>
  clear HR0
  obtain ⟨k, qq, rfl, rfl, hk, hqa, hqb, HR, HOI⟩ := hrel
  by_cases hlt : k < vs.length
  · have hkq : k < q0.length := by rw [HQ.out.2]; exact hlt
    obtain ⟨⟨⟨n9, d9⟩, hd, bsy⟩, hr⟩ : ∃ r, q0[k]? = some r := ⟨_, List.getElem?_eq_getElem hkq⟩
    obtain ⟨arr, hrow, hsz, hall⟩ := HR.out
    obtain ⟨hc7, hown⟩ := hall k _ (Nat.le_refl _) hr
    obtain ⟨hndy, hdis⟩ := blkV_at (List.nodup_cons.1 HND.out).2 hr
    have hgy : g ∉ bsy := fun hm => (List.nodup_cons.1 HND.out).1 (List.mem_flatMap.2 ⟨_, List.mem_of_getElem? hr, hm⟩)
    have hvk : vlK vs k = ⟨n9, d9⟩ := by
     rw [vlK_at hlt]
     have : (q0.map (·.1))[k]? = some ⟨n9, d9⟩ := by rw [List.getElem?_map, hr]; rfl
     rw [HQ.out.1, List.getElem?_eq_getElem hlt] at this
     exact Option.some.inj this
    have hst : sumV (vs.take (k + 1)) = sumV (vs.take k) + sizN d9 := by rw [sumV_take, if_pos hlt, hvk]
    have hsle := sumV_take_le vs (k + 1)
    have hsn := sizN_eq d9
    dsimp only at hown hndy hdis
    obtain ⟨hdm, b1, b2, rfl, ho1, ho2⟩ := hown
    obtain ⟨nd1, nd2, nd12⟩ := List.nodup_append.1 hndy
    have hM0 : MkV arr g k wr := ⟨arr, hrow, rfl, fun _ _ => rfl⟩
    have hk7 : k * 7 + 7 ≤ arr.size := by rw [hsz]; omega
    obtain ⟨-, -, -, hp3, -, -, hp6⟩ := hc7
    dsimp only at hp3 hp6
    obtain ⟨u0, a0⟩ := hM0.cell 0 (by decide) hk7
    have a0' : wr.cell? ⟨g, k * 7, none⟩ = some u0 := a0
    have fr0 := hM0.free (k * 7)
    have hM1 : MkV arr g k (wr.setCell ⟨g, k * 7, none⟩ (.int .i64 (qq : Int))) := hM0.store 0 _ (by decide)
    obtain ⟨u1, a1⟩ := hM1.cell 1 (by decide) hk7
    have fr1 := hM1.free (k * 7 + 1)
    have hM2 : MkV arr g k ((wr.setCell ⟨g, k * 7, none⟩ (.int .i64 (qq : Int))).setCell ⟨g, k * 7 + 1, none⟩ (.int .i64 ((qq : Int) + 1))) := hM1.store 1 _ (by decide)
    have hO2 : OnlyIn (g :: b1) wr ((wr.setCell ⟨g, k * 7, none⟩ (.int .i64 (qq : Int))).setCell ⟨g, k * 7 + 1, none⟩ (.int .i64 ((qq : Int) + 1))) := (OnlyIn.setCell (p := ⟨g, k * 7, none⟩) List.mem_cons_self (.int .i64 (qq : Int))).trans (OnlyIn.setCell (p := ⟨g, k * 7 + 1, none⟩) List.mem_cons_self (.int .i64 ((qq : Int) + 1)))
    have HX1 : Hid (OwS ((wr.setCell ⟨g, k * 7, none⟩ (.int .i64 (qq : Int))).setCell ⟨g, k * 7 + 1, none⟩ (.int .i64 ((qq : Int) + 1))) m hd.A hd.a d9.ptrs b1) := Lib.hid ((ho1.frame _ _ _ _ _ (fun b hb => Below.heap_setCell _ _ _ _ (fun e => hgy (List.mem_append_left _ (by have e' : b = g := e; rw [← e']; exact hb))))).frame _ _ _ _ _ (fun b hb => Below.heap_setCell _ _ _ _ (fun e => hgy (List.mem_append_left _ (by have e' : b = g := e; rw [← e']; exact hb)))))
    have HM2 := Lib.hid hM2
    have HO2 := Lib.hid hO2
    have HA := Lib.hid (And.intro hr (And.intro hall (And.intro hdis (And.intro hgy hsz))))
    have HB12 := Lib.hid (And.intro ho1 (And.intro ho2 (And.intro nd1 (And.intro nd2 nd12))))
    have HP := Lib.hid (And.intro hp3 (And.intro hp6 hk7))
    have hw1 : IntKind.i64.wrap ((qq : Int) + 1) = (qq : Int) + 1 := by rw [IntKind.wrap_i64]; omega
    have hw2 : IntKind.i64.wrap ((qq : Int) + 1 + 1) = (qq : Int) + 1 + 1 := by rw [IntKind.wrap_i64]; omega
    clear hM0 hM1 hM2 hO2 hr hall hdis hgy hsz ho1 ho2 nd1 nd2 nd12 hp3 hp6 hk7 hndy hrow hvk a0 hdm hkq HR
    go_wp2_with fail
    generalize (wr.setCell ⟨g, k * 7, none⟩ (.int .i64 (qq : Int))).setCell ⟨g, k * 7 + 1, none⟩ (.int .i64 ((qq : Int) + 1)) = W2 at *
    clear a0' fr0 a1 fr1
    refine (markText_any (qq + 2) _ (by omega) (by omega)).mono ?_
    rintro e W3 ⟨rfl, hb3⟩
    obtain ⟨mk, hmk⟩ : ∃ mk, mk = markB (qq + 2) := ⟨_, rfl⟩
    rw [← hmk]
    clear hmk
    have hM3 := HM2.out.keep (hb3.block _ (by obtain ⟨_, h1, _⟩ := HM2.out; exact row_lt h1))
    have hO3 := HO2.out.trans (OnlyIn.of_below hb3)
    obtain ⟨u2, a2⟩ := hM3.cell 2 (by decide) HP.out.2.2
    have fr2 := hM3.free (k * 7 + 2)
    have hM4 : MkV arr g k (W3.setCell ⟨g, k * 7 + 1 + 1, none⟩ (.string mk)) := hM3.store 2 _ (by decide)
    have hO4 : OnlyIn (g :: b1) wr (W3.setCell ⟨g, k * 7 + 1 + 1, none⟩ (.string mk)) := hO3.trans (OnlyIn.setCell (p := ⟨g, k * 7 + 1 + 1, none⟩) List.mem_cons_self (.string mk))
    have a3 : (W3.setCell ⟨g, k * 7 + 1 + 1, none⟩ (.string mk)).cell? ⟨g, k * 7 + 3, none⟩ = some (.slice hd.A d9.ptrs.length hd.a) := (hM4.got 3 (.inl rfl)).trans HP.out.1
    have hgy := HA.out.2.2.2.1
    have hso : OwS (W3.setCell ⟨g, k * 7 + 1 + 1, none⟩ (.string mk)) m hd.A hd.a d9.ptrs b1 := by
     have h3 : OwS W2 m hd.A hd.a d9.ptrs b1 := HX1.out
     exact (h3.below hb3).frame _ _ _ _ _ (fun b hb => Below.heap_setCell _ _ _ _ (fun e => hgy (List.mem_append_left _ (by have e' : b = g := e; rw [← e']; exact hb))))
    have HC1 := Lib.hid (mkS_any m hd.A hd.a d9.ptrs b1 _ (qq + 3) hso HB12.out.2.2.1 (by omega) (by omega))
    have HM4 := Lib.hid hM4
    have HO4 := Lib.hid hO4
    have hw3 : IntKind.i64.wrap ((qq : Int) + 1 + 1 + 1) = (qq : Int) + 1 + 1 + 1 := by rw [IntKind.wrap_i64]; omega
    clear hM3 hM4 hO3 hO4 hso hb3 HM2 HO2 HX1
    go_wp2_with fail
    generalize W3.setCell ⟨g, k * 7 + 1 + 1, none⟩ (.string mk) = W4 at *
    clear a2 fr2 a3
    refine HC1.out.mono ?_
    rintro e W5 ⟨p', q1, rfl, hq1a, hq1b, -, -, -, hoi⟩
    clear HC1
    have hg1 : g ∉ b1 := fun hm => hgy (List.mem_append_left _ hm)
    have hM5 := HM4.out.keep (hoi.block g (by obtain ⟨_, h1, _⟩ := HM4.out; exact row_lt h1) hg1)
    have hO5 := HO4.out.trans (hoi.mono (fun b hb => .inl (List.mem_cons_of_mem _ hb)))
    obtain ⟨u4, a4⟩ := hM5.cell 4 (by decide) HP.out.2.2
    have fr4 := hM5.free (k * 7 + 4)
    have hM6 : MkV arr g k (W5.setCell ⟨g, k * 7 + 1 + 3, none⟩ (.int .i64 (q1 : Int))) := hM5.store 4 _ (by decide)
    obtain ⟨u5, a5⟩ := hM6.cell 5 (by decide) HP.out.2.2
    have fr5 := hM6.free (k * 7 + 5)
    have hM7 : MkV arr g k ((W5.setCell ⟨g, k * 7 + 1 + 3, none⟩ (.int .i64 (q1 : Int))).setCell ⟨g, k * 7 + 1 + 4, none⟩ (.int .i64 ((q1 : Int) + 1))) := hM6.store 5 _ (by decide)
    have hO7 : OnlyIn (g :: b1) wr ((W5.setCell ⟨g, k * 7 + 1 + 3, none⟩ (.int .i64 (q1 : Int))).setCell ⟨g, k * 7 + 1 + 4, none⟩ (.int .i64 ((q1 : Int) + 1))) := (hO5.trans (OnlyIn.setCell (p := ⟨g, k * 7 + 1 + 3, none⟩) List.mem_cons_self (.int .i64 (q1 : Int)))).trans (OnlyIn.setCell (p := ⟨g, k * 7 + 1 + 4, none⟩) List.mem_cons_self (.int .i64 ((q1 : Int) + 1)))
    have a6 : ((W5.setCell ⟨g, k * 7 + 1 + 3, none⟩ (.int .i64 (q1 : Int))).setCell ⟨g, k * 7 + 1 + 4, none⟩ (.int .i64 ((q1 : Int) + 1))).cell? ⟨g, k * 7 + 6, none⟩ = some (.slice hd.B d9.items.length hd.b) := (hM7.got 6 (.inr rfl)).trans HP.out.2.1
    have hso : OwS ((W5.setCell ⟨g, k * 7 + 1 + 3, none⟩ (.int .i64 (q1 : Int))).setCell ⟨g, k * 7 + 1 + 4, none⟩ (.int .i64 ((q1 : Int) + 1))) m hd.B hd.b d9.items b2 := HB12.out.2.1.frame _ _ _ _ _ (fun b hb => hO7.block b (HB12.out.2.1.lt _ _ _ _ _ b hb).1 (fun hm => by
     rcases List.mem_cons.1 hm with rfl | hm
     · exact hgy (List.mem_append_right _ hb)
     · exact HB12.out.2.2.2.2 b hm b hb rfl))
    have HC2 := Lib.hid (mkS_any m hd.B hd.b d9.items b2 _ (q1 + 2) hso HB12.out.2.2.2.1 (by omega) (by omega))
    have HM7 := Lib.hid hM7
    have HO7 := Lib.hid hO7
    have hw4 : IntKind.i64.wrap ((q1 : Int) + 1) = (q1 : Int) + 1 := by rw [IntKind.wrap_i64]; omega
    have hw5 : IntKind.i64.wrap ((q1 : Int) + 1 + 1) = (q1 : Int) + 1 + 1 := by rw [IntKind.wrap_i64]; omega
    clear hM5 hM6 hM7 hO5 hO7 hso hoi HM4 HO4 hg1 hw1 hw2 hw3
    go_wp2_with fail
    generalize ((W5.setCell ⟨g, k * 7 + 1 + 3, none⟩ (.int .i64 (q1 : Int))).setCell ⟨g, k * 7 + 1 + 4, none⟩ (.int .i64 ((q1 : Int) + 1))) = W7 at *
    clear a4 fr4 a5 fr5 a6 hw4 hw5
    refine HC2.out.mono ?_
    rintro e W8 ⟨i', q2, rfl, hq2a, hq2b, -, -, -, hoj⟩
    clear HC2
    have hg2 : g ∉ b2 := fun hm => hgy (List.mem_append_right _ hm)
    obtain ⟨hr, hall, hdis, -, hsz⟩ := HA.out
    have hO8 : OnlyIn (g :: (b1 ++ b2)) wr W8 := (HO7.out.mono (fun b hb => .inl (by rcases List.mem_cons.1 hb with rfl | hb; exact List.mem_cons_self; exact List.mem_cons_of_mem _ (List.mem_append_left _ hb)))).trans (hoj.mono (fun b hb => .inl (List.mem_cons_of_mem _ (List.mem_append_right _ hb))))
    have HOI8 : Hid (OnlyIn bs w W8) := Lib.hid (HOI.out.trans (hO8.mono (fun b hb => .inl (by
     rw [HBS.out]
     rcases List.mem_cons.1 hb with rfl | hb
     · exact List.mem_cons_self
     · exact List.mem_cons_of_mem _ (List.mem_flatMap.2 ⟨_, List.mem_of_getElem? hr, hb⟩)))))
    have HR8 : Hid (MkVR q0 m g (k + 1) vs.length W8) := by
     obtain ⟨arr', r1, r2, r3⟩ := HM7.out.keep (hoj.block g (by obtain ⟨_, h1, _⟩ := HM7.out; exact row_lt h1) hg2)
     refine Lib.hid ⟨arr', r1, r2.trans hsz, fun j r hj hjr => ?_⟩
     obtain ⟨t1, t2⟩ := hall j r (by omega) hjr
     refine ⟨t1.of_eq (fun i hi => r3 _ (by omega)), t2.frame (fun b hb => hO8.block b (t2.lt b hb).1 (fun hm => ?_))⟩
     rcases List.mem_cons.1 hm with rfl | hm
     · exact (List.nodup_cons.1 HND.out).1 (List.mem_flatMap.2 ⟨r, List.mem_of_getElem? hjr, hb⟩)
     · exact hdis j r (by omega) hjr b hm hb
    have hqn : q ≤ q2 := by omega
    have hqm : q2 ≤ q + 5 * (k + 1) + 4 * sumV (vs.take (k + 1)) := by omega
    clear hO8 hoj hr hall hdis hsz HM7 HO7 hgy hg2
    go_wp2
    go_roundw
    case rel => exact ⟨k + 1, q2, rfl, by go_num, by omega, hqn, hqm, HR8, HOI8⟩
    case measure => simp [intOf]; omega
  · obtain rfl : k = vs.length := by omega
    have hqz := sumV_take_le vs vs.length
    have HFIN : Hid (∃ q' : Nat, Ending.returned (.int .i64 (qq : Int)) = .returned (.int .i64 (q' : Int)) ∧ q ≤ q' ∧ q' ≤ 100000000 ∧ OnlyIn bs w wr) := Lib.hid ⟨qq, rfl, hqa, by omega, HOI.out⟩
    clear hqa hqb HR HOI
    go_wp2
    go_ret
    exact HFIN.out
theorem implRecordOf_a (x : Addr) (c : Nat) (l : List Fld) (B : Option Addr) (cb : Nat) (vs : List Vl) (ch : Int) (m : Nat) (w : World) (ht : Tab w) (h1w : 2 < w.heap.size) (hxb : x.block < w.heap.size) (hfl : Flds w (some x) l) (hll : l.length ≤ 10000000) (hc : l.length ≤ c) (hvs : ValsAt w Any m B vs) (hvl : vs.length ≤ 10000000) (hsv : sumV vs ≤ 1900000) :
 Calls Tryz.prog 21 #[.slice (some x) l.length c, .slice B vs.length cb, .int .i64 ch] w (NewNb (m + 2) (roN l vs ch) (roB l vs ch) w) := by
 have no : roB l vs ch = false → NewNb (m + 2) (roN l vs ch) (roB l vs ch) w = NewNb (m + 2) noneNd false w := fun h => by
  have e : roN l vs ch = noneNd := by unfold roN; rw [h]; rfl
  rw [h, e]
 cases hyes : fldsOk l
 · rw [no (by unfold roB; rw [hyes]; rfl)]
   exact roI_no x c l B cb vs ch m w ht h1w hxb hfl hll hc hvs hvl hsv (m + 2) hyes
 cases hva : (decide (vs.length = l.length) && valsB l vs l.length)
 · rw [no (by unfold roB; rw [hyes, hva]; rfl)]
   exact roI_vals x c l B cb vs ch m w ht h1w hxb hfl hll hc hvs hvl hsv (m + 2) hyes hva
 cases hch : chB l ch
 · rw [no (by unfold roB; rw [hyes, hva, hch]; rfl)]
   exact roI_choice x c l B cb vs ch m w ht h1w hxb hfl hll hc hvs hvl hsv (m + 2) hyes hva hch
 have e : roB l vs ch = nodeOk (recN (fillF l vs ch l.length)) := by unfold roB; rw [hyes, hva, hch]; rfl
 rw [e]
 refine roI_yes x c l B cb vs ch m w ht h1w hxb hfl hll hc hvs hvl hsv hyes hva hch _ (roN l vs ch) rfl (fun h => ?_) (fun h => ?_)
 · unfold roN; rw [e, if_pos h]
 · unfold roN; rw [e, h]; rfl
theorem fit_bytes {z : Int} (hz : z = 2 ∨ z = 3 ∨ z = 4 ∨ z = 5) (n : Int) : fitB z n = fitsB n (wdF z) := by
 rw [Bool.eq_iff_iff]
 rcases hz with rfl | rfl | rfl | rfl
 · simp [fitB, fitsB, wdF, bitsOf]; omega
 · simp [fitB, fitsB, wdF, bitsOf]; omega
 · simp [fitB, fitsB, wdF, bitsOf]; omega
 · simp [fitB, fitsB, wdF]
theorem bits_wd {z : Int} (hz : z = 2 ∨ z = 3 ∨ z = 4 ∨ z = 5) : bitsOf z = 8 * wdF z := by
 rcases hz with rfl | rfl | rfl | rfl <;> rfl
theorem wr_num {f : Fld} (hz : f.size = 2 ∨ f.size = 3 ∨ f.size = 4 ∨ f.size = 5) (hf : fitB f.size f.els = true) {n : Int} (hv : fitB f.size n = true) (hn : -9223372036854775808 ≤ n ∧ n ≤ 9223372036854775807) {D : List UInt8} {W s : Nat} (hD : D.length = 8 * W) (hW : W ≤ 24) (hin : toF f.size s ≤ 64 * (W : Int)) :
 putB D ((s : Int) * wdF f.size) (wdF f.size) (xorI n f.els) = true ∧ 0 ≤ (s : Int) * wdF f.size ∧ (s : Int) * wdF f.size + wdF f.size ≤ D.length := by
 have hor := wdF_or f.size
 have hbd := wdF_bd f.size
 rw [fit_bytes hz] at hf hv
 have hx := xorI_fits hn hor hf
 rw [hv] at hx
 have h1 : (s : Int) * wdF f.size + wdF f.size ≤ 8 * W := by
  unfold toF at hin
  rw [bits_wd hz, Int.mul_left_comm] at hin
  omega
 have h0 : 0 ≤ (s : Int) * wdF f.size := Int.mul_nonneg (by omega) hbd.1
 have hm : ((s : Int) * wdF f.size) % wdF f.size = 0 := Int.mul_emod_left _ _
 refine ⟨?_, h0, by omega⟩
 unfold putB putOk
 rw [hx]
 have hw : wordsB D.length = true := by unfold wordsB; rw [decide_eq_true_eq]; omega
 rw [hw]
 have hp : placeB ((s : Int) * wdF f.size) (wdF f.size) = true := by
  unfold placeB
  rw [decide_eq_true_eq]
  exact ⟨h0, by omega, hor, hm⟩
 rw [hp]
 have : (s : Int) * wdF f.size < D.length := by omega
 simp [this]
theorem wr_bit {f : Fld} (hz : f.size = 1) (hf : fitB f.size f.els = true) {n : Int} (hv : fitB f.size n = true) (hn : -9223372036854775808 ≤ n ∧ n ≤ 9223372036854775807) {D : List UInt8} {W s : Nat} (hD : D.length = 8 * W) (hW : W ≤ 24) (hin : toF f.size s ≤ 64 * (W : Int)) :
 bputT D (s : Int) (xorI n f.els) = setBit D s (xorI n f.els).toNat ∧ (xorI n f.els = 0 ∨ xorI n f.els = 1) ∧ s < 8 * D.length := by
 rw [hz] at hf hv hin
 have h1 : f.els = 0 ∨ f.els = 1 := by simp [fitB, bitsOf] at hf; omega
 have h2 : n = 0 ∨ n = 1 := by simp [fitB, bitsOf] at hv; omega
 have h3 := (xorI_bit hn h1).2 h2
 have h4 : s < 8 * D.length := by unfold toF at hin; simp [bitsOf] at hin; omega
 refine ⟨?_, h3, h4⟩
 have hw : wordsB D.length = true := by unfold wordsB; rw [decide_eq_true_eq]; omega
 have hb : bputOk D (s : Int) (xorI n f.els) = true := by
  unfold bputOk
  rw [Bool.and_eq_true, decide_eq_true_eq, decide_eq_true_eq]
  exact ⟨by omega, h3⟩
 unfold bputT
 rw [if_pos hw, if_pos hb, Int.toNat_natCast]
theorem tg_ok {l : List Fld} (hok : fldsOk l = true) (h0 : 0 ≤ tagL l) (k : Nat) (hk : k ≤ 12) {D : List UInt8} (hD : D.length = 8 * (layF l ps0).2.ls.words) (hW : (layF l ps0).2.ls.words ≤ 24) :
 putB D (tagL l * 2) 2 ((plcN l k : Nat) : Int) = true ∧ tagL l * 2 + 2 ≤ D.length := by
 have ht := (layOk l (fldsOk_at hok)).tagIn h0
 have hpl := plc_le l k
 have h1 : tagL l * 2 + 2 ≤ D.length := by rw [hD]; unfold tagL at *; omega
 refine ⟨?_, h1⟩
 have hw : wordsB D.length = true := by unfold wordsB; rw [decide_eq_true_eq]; omega
 unfold putB putOk
 rw [hw]
 have hp : placeB (tagL l * 2) 2 = true := by unfold placeB; rw [decide_eq_true_eq]; exact ⟨by omega, by omega, .inr (.inl rfl), by omega⟩
 rw [hp]
 have hf : fitsB ((plcN l k : Nat) : Int) 2 = true := by unfold fitsB; rw [decide_eq_true_eq]; right; exact ⟨by omega, by show ((plcN l k : Nat) : Int) < 65536; omega⟩
 rw [hf]
 have : tagL l * 2 < D.length := by omega
 simp [this]
theorem putT_keep {D : List UInt8} (h : wordsB D.length = true) (a z n : Int) : (putT D a z n).length = D.length := by
 cases hB : putB D a z n
 · unfold putT
   unfold putB at hB
   rw [h, Bool.true_and] at hB
   rw [if_pos h, if_neg (by rw [hB]; decide)]
 · exact putT_length hB
theorem bputT_keep {D : List UInt8} (h : wordsB D.length = true) (a n : Int) : (bputT D a n).length = D.length := by
 unfold bputT
 rw [if_pos h]
 split
 · unfold setBit; simp
 · rfl
theorem fill_full (l : List Fld) (vs : List Vl) (ch : Int) (hW : (layF l ps0).2.ls.words ≤ 24) : ∀ k, (fillF l vs ch k).d.length = 8 * (layF l ps0).2.ls.words
 | 0 => by show (List.replicate _ _).length = _; simp
 | k + 1 => by
   have h1 := fill_full l vs ch hW k
   have hw : ∀ D : List UInt8, D.length = 8 * (layF l ps0).2.ls.words → wordsB D.length = true := fun D hD => by unfold wordsB; rw [decide_eq_true_eq]; omega
   have ht : (tgF l k (fillF l vs ch k).d).length = 8 * (layF l ps0).2.ls.words := by
    unfold tgF
    split
    · rw [putT_keep (hw _ h1)]; exact h1
    · exact h1
   show (if pickB l k ch = true then setF l k (vlK vs k) (fillF l vs ch k) else fillF l vs ch k).d.length = _
   split
   · unfold setF
     split
     · exact ht
     · show (wrF _ _ _ _).length = _
       unfold wrF
       split
       · rw [bputT_keep (hw _ ht)]; exact ht
       · rw [putT_keep (hw _ ht)]; exact ht
   · exact h1
end Go.Proofs.YtehhbbdaeonebaaGreatDoor
