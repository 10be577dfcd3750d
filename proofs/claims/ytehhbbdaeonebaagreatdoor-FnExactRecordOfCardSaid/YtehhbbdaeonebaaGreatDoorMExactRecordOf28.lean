/- Texts of the proof of the law FnExactRecordOf, side by side: part 28. -/
import Derived.Test.YtehhbbdaeonebaaGreatDoorMExactRecordOf27
set_option maxHeartbeats 8000000
set_option maxRecDepth 100000
namespace Go.Proofs.YtehhbbdaeonebaaGreatDoor
open Go.RowKit
def ToR (l : List Nd) (B m k : Nat) (wr : World) : Prop := ∃ (arr : Array Value) (q : List NB), wr.heap[B]? = some (.cells arr nodeT (0, 0)) ∧ arr.size = l.length * 6 ∧ q.map (·.1) = l.take k ∧ (∀ (j : Nat) (u : Value), (rowB q)[j]? = some u → arr[j]? = some u) ∧ (∀ r ∈ q, OwN wr m r.1 r.2.1 r.2.2) ∧ (blkB q).Nodup ∧ ∀ b ∈ blkB q, B + 1 ≤ b
theorem ToR.done {l : List Nd} {B m : Nat} {wr : World} (h : ToR l B m l.length wr) : l.length ≤ maxLen → ∃ bs, OwS wr (m + 1) (some ⟨B, 0, none⟩) l.length l bs ∧ bs.Nodup ∧ ∀ b ∈ bs, B ≤ b := by
 intro hlm
 obtain ⟨arr, q, hrow, hsz, hq, harr, hqn, hqd, hqb⟩ := h
 rw [List.take_of_length_le (Nat.le_refl _)] at hq
 have hql : q.length = l.length := by rw [← hq, List.length_map]
 have hrl : (rowB q).length = l.length * 6 := by unfold rowB; rw [rowOf_length, List.length_map, hql]
 have ht : arr.toList.take (l.length * 6) = rowB q := by
  apply List.ext_getElem?
  intro j
  rcases Nat.lt_or_ge j (l.length * 6) with hj | hj
  · rw [List.getElem?_take_of_lt hj, Array.getElem?_toList]
    obtain ⟨u, hu⟩ : ∃ u, (rowB q)[j]? = some u := ⟨_, List.getElem?_eq_getElem (by omega)⟩
    rw [hu]
    exact harr j u hu
  · rw [List.getElem?_eq_none (by rw [List.length_take]; omega), List.getElem?_eq_none (by omega)]
 refine ⟨B :: blkB q, ⟨q, hq, ⟨by rw [hql]; exact hrl, .inr ⟨B, l.length, arr, by rw [hql], Nat.zero_le _, hrow, by omega, hlm, hsz, by rw [hql]; exact ht⟩⟩, rfl, hqn⟩, List.nodup_cons.2 ⟨fun hm => by have := hqb B hm; omega, hqd⟩, fun b hb => ?_⟩
 rcases List.mem_cons.1 hb with rfl | hb
 · exact Nat.le_refl _
 · have := hqb b hb
   omega
def ToSO (m : Nat) : Prop := ∀ (A : Option Addr) (c : Nat) (l : List Nd) (w : World) (S : Nat → Prop), NdsAt w S m A l → totL m l ≤ 2000000 →
 Calls Tryz.prog 34 #[.slice A l.length c] w (NewOS m l w)
def ToNO (m : Nat) : Prop := ∀ (n : Nd) (h : Hd) (w : World) (S : Nat → Prop), NdAt w S m n h → totN m n ≤ 2000000 →
 Calls Tryz.prog 9 #[.agg #[.int .i64 n.kind, .string n.data, .slice h.A n.ptrs.length h.a, .int .i64 n.size, .int .i64 n.count, .slice h.B n.items.length h.b]] w (NewO m n w)
theorem toNO_of (m : Nat) (hS : ToSO m) : ToNO m := by
 intro n h w S hn ht
 have HS := Lib.hid hS
 have HN := Lib.hid hn
 have HT : Hid (totN m n ≤ 2000000) := Lib.hid ht
 have HT1 : Hid (totL m n.ptrs ≤ 2000000) := Lib.hid (by unfold totN at ht; omega)
 have HT2 : Hid (totL m n.items ≤ 2000000) := Lib.hid (by unfold totN at ht; omega)
 clear hS hn ht
 go_enter Tryz.func9, Tryz.ntmps9
 go_wp2_with fail
 have hb0 : Below w.heap.size w (((w.alloc (.cells #[.int .i64 n.kind, .string n.data, .slice h.A n.ptrs.length h.a, .int .i64 n.size, .int .i64 n.count, .slice h.B n.items.length h.b] 25)).alloc (.cells #[.int .i64 0, .string { data := #[] }, .slice none 0 0, .int .i64 0, .int .i64 0, .slice none 0 0] nodeT)).alloc (.cells #[.int .i64 n.kind, .string n.data, .slice none 0 0, .int .i64 0, .int .i64 0, .slice none 0 0] nodeT)) := (((Below.refl _ w).alloc (Nat.le_refl _) _).alloc (by simp) _).alloc (by simp; omega) _
 have k0 : (((w.alloc (.cells #[.int .i64 n.kind, .string n.data, .slice h.A n.ptrs.length h.a, .int .i64 n.size, .int .i64 n.count, .slice h.B n.items.length h.b] 25)).alloc (.cells #[.int .i64 0, .string { data := #[] }, .slice none 0 0, .int .i64 0, .int .i64 0, .slice none 0 0] nodeT)).alloc (.cells #[.int .i64 n.kind, .string n.data, .slice none 0 0, .int .i64 0, .int .i64 0, .slice none 0 0] nodeT)).heap[w.heap.size]? = some (.cells #[.int .i64 n.kind, .string n.data, .slice h.A n.ptrs.length h.a, .int .i64 n.size, .int .i64 n.count, .slice h.B n.items.length h.b] 25 (0, 0)) := (Below.heap_alloc _ _ _ (by simp; omega)).trans ((Below.heap_alloc _ _ _ (by simp)).trans (heap_alloc_new w _))
 have k1 : (((w.alloc (.cells #[.int .i64 n.kind, .string n.data, .slice h.A n.ptrs.length h.a, .int .i64 n.size, .int .i64 n.count, .slice h.B n.items.length h.b] 25)).alloc (.cells #[.int .i64 0, .string { data := #[] }, .slice none 0 0, .int .i64 0, .int .i64 0, .slice none 0 0] nodeT)).alloc (.cells #[.int .i64 n.kind, .string n.data, .slice none 0 0, .int .i64 0, .int .i64 0, .slice none 0 0] nodeT)).heap[w.heap.size + 1]? = some (.cells #[.int .i64 0, .string { data := #[] }, .slice none 0 0, .int .i64 0, .int .i64 0, .slice none 0 0] nodeT (0, 0)) := (Below.heap_alloc _ _ _ (by simp)).trans (by have := heap_alloc_new (w.alloc (.cells #[.int .i64 n.kind, .string n.data, .slice h.A n.ptrs.length h.a, .int .i64 n.size, .int .i64 n.count, .slice h.B n.items.length h.b] 25)) (.cells #[.int .i64 0, .string { data := #[] }, .slice none 0 0, .int .i64 0, .int .i64 0, .slice none 0 0] nodeT); rwa [show (w.alloc (.cells #[.int .i64 n.kind, .string n.data, .slice h.A n.ptrs.length h.a, .int .i64 n.size, .int .i64 n.count, .slice h.B n.items.length h.b] 25)).heap.size = w.heap.size + 1 by simp] at this)
 have k2 : (((w.alloc (.cells #[.int .i64 n.kind, .string n.data, .slice h.A n.ptrs.length h.a, .int .i64 n.size, .int .i64 n.count, .slice h.B n.items.length h.b] 25)).alloc (.cells #[.int .i64 0, .string { data := #[] }, .slice none 0 0, .int .i64 0, .int .i64 0, .slice none 0 0] nodeT)).alloc (.cells #[.int .i64 n.kind, .string n.data, .slice none 0 0, .int .i64 0, .int .i64 0, .slice none 0 0] nodeT)).heap[w.heap.size + 1 + 1]? = some (.cells #[.int .i64 n.kind, .string n.data, .slice none 0 0, .int .i64 0, .int .i64 0, .slice none 0 0] nodeT (0, 0)) := by have := heap_alloc_new ((w.alloc (.cells #[.int .i64 n.kind, .string n.data, .slice h.A n.ptrs.length h.a, .int .i64 n.size, .int .i64 n.count, .slice h.B n.items.length h.b] 25)).alloc (.cells #[.int .i64 0, .string { data := #[] }, .slice none 0 0, .int .i64 0, .int .i64 0, .slice none 0 0] nodeT)) (.cells #[.int .i64 n.kind, .string n.data, .slice none 0 0, .int .i64 0, .int .i64 0, .slice none 0 0] nodeT); rwa [show ((w.alloc (.cells #[.int .i64 n.kind, .string n.data, .slice h.A n.ptrs.length h.a, .int .i64 n.size, .int .i64 n.count, .slice h.B n.items.length h.b] 25)).alloc (.cells #[.int .i64 0, .string { data := #[] }, .slice none 0 0, .int .i64 0, .int .i64 0, .slice none 0 0] nodeT)).heap.size = w.heap.size + 1 + 1 by simp] at this
 have hs3 : (((w.alloc (.cells #[.int .i64 n.kind, .string n.data, .slice h.A n.ptrs.length h.a, .int .i64 n.size, .int .i64 n.count, .slice h.B n.items.length h.b] 25)).alloc (.cells #[.int .i64 0, .string { data := #[] }, .slice none 0 0, .int .i64 0, .int .i64 0, .slice none 0 0] nodeT)).alloc (.cells #[.int .i64 n.kind, .string n.data, .slice none 0 0, .int .i64 0, .int .i64 0, .slice none 0 0] nodeT)).heap.size = w.heap.size + 3 := by simp
 generalize (((w.alloc (.cells #[.int .i64 n.kind, .string n.data, .slice h.A n.ptrs.length h.a, .int .i64 n.size, .int .i64 n.count, .slice h.B n.items.length h.b] 25)).alloc (.cells #[.int .i64 0, .string { data := #[] }, .slice none 0 0, .int .i64 0, .int .i64 0, .slice none 0 0] nodeT)).alloc (.cells #[.int .i64 n.kind, .string n.data, .slice none 0 0, .int .i64 0, .int .i64 0, .slice none 0 0] nodeT)) = W3 at *
 refine (HS.out h.A h.a n.ptrs W3 S (HN.out.below hb0).2.1 HT1.out).mono ?_
 rintro e w1 ⟨A1, c1, bs1, rfl, hn1, hnd1, hge1, hb1⟩
 have HG1 : Hid (bs1.Nodup ∧ ∀ b ∈ bs1, w.heap.size + 3 ≤ b ∧ b < w1.heap.size) := Lib.hid ⟨hnd1, fun b hb => ⟨by have := hge1 b hb; omega, (hn1.lt _ _ _ _ _ b hb).1⟩⟩
 have HN1 := Lib.hid hn1
 have k0' := (hb1.block _ (by omega)).trans k0
 have k1' := (hb1.block _ (by omega)).trans k1
 have k2' := (hb1.block _ (by omega)).trans k2
 have HB1 := Lib.hid (hb0.trans (hb1.mono (by omega)))
 have HS3 := Lib.hid hs3
 have HS1 := Lib.hid hb1.size
 have HK0 := Lib.hid k0'
 have HK1 := Lib.hid k1'
 have HK2 := Lib.hid k2'
 obtain ⟨a0, a1, a2, a3, a4, a5⟩ := cells6 k0'
 obtain ⟨b0, b1, b2, b3, b4, b5⟩ := cells6 k2'
 have f2 := row_free k2'
 clear hnd1 hge1 hn1 hb1 k0 k1 k2 k0' k1' k2' hs3 hb0
 go_wp2_with fail
 have hu5 : Upon (w.heap.size + 3) w1 (((w1.setCell ⟨w.heap.size + 1 + 1, 2, none⟩ (.slice A1 n.ptrs.length c1)).setCell ⟨w.heap.size + 1 + 1, 3, none⟩ (.int .i64 n.size)).setCell ⟨w.heap.size + 1 + 1, 4, none⟩ (.int .i64 n.count)) := (((Upon.refl _ w1).setCell (p := ⟨w.heap.size + 1 + 1, 2, none⟩) (by simp) _).setCell (p := ⟨w.heap.size + 1 + 1, 3, none⟩) (by simp) _).setCell (p := ⟨w.heap.size + 1 + 1, 4, none⟩) (by simp) _
 have hb5 : Below w.heap.size w (((w1.setCell ⟨w.heap.size + 1 + 1, 2, none⟩ (.slice A1 n.ptrs.length c1)).setCell ⟨w.heap.size + 1 + 1, 3, none⟩ (.int .i64 n.size)).setCell ⟨w.heap.size + 1 + 1, 4, none⟩ (.int .i64 n.count)) := ((HB1.out.setCell (p := ⟨w.heap.size + 1 + 1, 2, none⟩) (by simp; omega) _).setCell (p := ⟨w.heap.size + 1 + 1, 3, none⟩) (by simp; omega) _).setCell (p := ⟨w.heap.size + 1 + 1, 4, none⟩) (by simp; omega) _
 have j0 : ((((w1.setCell ⟨w.heap.size + 1 + 1, 2, none⟩ (.slice A1 n.ptrs.length c1)).setCell ⟨w.heap.size + 1 + 1, 3, none⟩ (.int .i64 n.size)).setCell ⟨w.heap.size + 1 + 1, 4, none⟩ (.int .i64 n.count))).heap[w.heap.size]? = some (.cells #[.int .i64 n.kind, .string n.data, .slice h.A n.ptrs.length h.a, .int .i64 n.size, .int .i64 n.count, .slice h.B n.items.length h.b] 25 (0, 0)) := (Below.heap_setCell _ _ _ _ (by simp; omega)).trans ((Below.heap_setCell _ _ _ _ (by simp; omega)).trans ((Below.heap_setCell _ _ _ _ (by simp; omega)).trans HK0.out))
 have j1 : ((((w1.setCell ⟨w.heap.size + 1 + 1, 2, none⟩ (.slice A1 n.ptrs.length c1)).setCell ⟨w.heap.size + 1 + 1, 3, none⟩ (.int .i64 n.size)).setCell ⟨w.heap.size + 1 + 1, 4, none⟩ (.int .i64 n.count))).heap[w.heap.size + 1]? = some (.cells #[.int .i64 0, .string { data := #[] }, .slice none 0 0, .int .i64 0, .int .i64 0, .slice none 0 0] nodeT (0, 0)) := (Below.heap_setCell _ _ _ _ (by simp)).trans ((Below.heap_setCell _ _ _ _ (by simp)).trans ((Below.heap_setCell _ _ _ _ (by simp)).trans HK1.out))
 have j2 : ((((w1.setCell ⟨w.heap.size + 1 + 1, 2, none⟩ (.slice A1 n.ptrs.length c1)).setCell ⟨w.heap.size + 1 + 1, 3, none⟩ (.int .i64 n.size)).setCell ⟨w.heap.size + 1 + 1, 4, none⟩ (.int .i64 n.count))).heap[w.heap.size + 1 + 1]? = some (.cells #[.int .i64 n.kind, .string n.data, .slice A1 n.ptrs.length c1, .int .i64 n.size, .int .i64 n.count, .slice none 0 0] nodeT (0, 0)) := row_setN (row_setN (row_setN HK2.out 2 _) 3 _) 4 _
 have hn5 : OwS (((w1.setCell ⟨w.heap.size + 1 + 1, 2, none⟩ (.slice A1 n.ptrs.length c1)).setCell ⟨w.heap.size + 1 + 1, 3, none⟩ (.int .i64 n.size)).setCell ⟨w.heap.size + 1 + 1, 4, none⟩ (.int .i64 n.count)) m A1 c1 n.ptrs bs1 := HN1.out.frame _ _ _ _ _ (fun b hb => hu5.block b (HG1.out.2 b hb).1 (HG1.out.2 b hb).2)
 have hs15 : w1.heap.size ≤ (((w1.setCell ⟨w.heap.size + 1 + 1, 2, none⟩ (.slice A1 n.ptrs.length c1)).setCell ⟨w.heap.size + 1 + 1, 3, none⟩ (.int .i64 n.size)).setCell ⟨w.heap.size + 1 + 1, 4, none⟩ (.int .i64 n.count)).heap.size := hu5.size
 have hs5 : w.heap.size + 3 ≤ ((((w1.setCell ⟨w.heap.size + 1 + 1, 2, none⟩ (.slice A1 n.ptrs.length c1)).setCell ⟨w.heap.size + 1 + 1, 3, none⟩ (.int .i64 n.size)).setCell ⟨w.heap.size + 1 + 1, 4, none⟩ (.int .i64 n.count))).heap.size := by have := hu5.size; have := HS1.out; have := HS3.out; omega
 generalize (((w1.setCell ⟨w.heap.size + 1 + 1, 2, none⟩ (.slice A1 n.ptrs.length c1)).setCell ⟨w.heap.size + 1 + 1, 3, none⟩ (.int .i64 n.size)).setCell ⟨w.heap.size + 1 + 1, 4, none⟩ (.int .i64 n.count)) = W5 at *
 have HN5 := Lib.hid hn5
 have HS5 := Lib.hid hs5
 clear a0 a1 a2 a3 a4 a5 b0 b1 b2 b3 b4 b5 f2 hu5 HK0 HK1 HK2 HN1
 refine (HS.out h.B h.b n.items W5 S (HN.out.below hb5).2.2 HT2.out).mono ?_
 rintro e w2 ⟨A2, c2, bs2, rfl, hn2, hnd2, hge2, hb2⟩
 have HG2 : Hid (bs2.Nodup ∧ ∀ b ∈ bs2, w1.heap.size ≤ b ∧ b < w2.heap.size) := Lib.hid ⟨hnd2, fun b hb => ⟨by have := hge2 b hb; omega, (hn2.lt _ _ _ _ _ b hb).1⟩⟩
 have hs52 := hb2.size
 have HN2 := Lib.hid hn2
 have HN1 := Lib.hid (HN5.out.below hb2)
 have HB2 := Lib.hid (hb5.trans (hb2.mono hb5.size))
 have k1 := (hb2.block _ (by omega)).trans j1
 have k2 := (hb2.block _ (by omega)).trans j2
 have hc0 : ∀ u i, (w2.setCell ⟨w.heap.size + 1 + 1, 5, none⟩ u).cell? ⟨w.heap.size + 1, i, none⟩ = (#[.int .i64 0, .string { data := #[] }, .slice none 0 0, .int .i64 0, .int .i64 0, .slice none 0 0] : Array Value)[i]? := fun u i => cell_of_row _ _ _ _ _ _ ((Below.heap_setCell w2 ⟨w.heap.size + 1 + 1, 5, none⟩ u (w.heap.size + 1) (by simp)).trans k1)
 obtain ⟨b0, b1, b2, b3, b4, b5⟩ := cells6 k2
 have f2 := row_free k2
 have hf1 : ∀ u i, (w2.setCell ⟨w.heap.size + 1 + 1, 5, none⟩ u).frozen? ⟨w.heap.size + 1, i, none⟩ = false := fun u i => row_free ((Below.heap_setCell w2 ⟨w.heap.size + 1 + 1, 5, none⟩ u (w.heap.size + 1) (by simp)).trans k1) i
 have HK1 := Lib.hid k1
 have HK2 := Lib.hid k2
 clear hnd2 hge2 k1 k2 j0 j1 j2 hn5 hs5 hb5 hn2 hb2 HN5
 go_wp2_with fail
 have kw := row_setN (row_setN (row_setN (row_setN (row_setN (row_setN ((Below.heap_setCell w2 ⟨w.heap.size + 1 + 1, 5, none⟩ (.slice A2 n.items.length c2) (w.heap.size + 1) (by simp)).trans HK1.out) 0 (.int .i64 n.kind)) 1 (.string n.data)) 2 (.slice A1 n.ptrs.length c1)) 3 (.int .i64 n.size)) 4 (.int .i64 n.count)) 5 (.slice A2 n.items.length c2)
 have hbw := ((((((HB2.out.setCell (p := ⟨w.heap.size + 1 + 1, 5, none⟩) (by simp; omega) (.slice A2 n.items.length c2)).setCell (p := ⟨w.heap.size + 1, 0, none⟩) (by simp) (.int .i64 n.kind)).setCell (p := ⟨w.heap.size + 1, 1, none⟩) (by simp) (.string n.data)).setCell (p := ⟨w.heap.size + 1, 2, none⟩) (by simp) (.slice A1 n.ptrs.length c1)).setCell (p := ⟨w.heap.size + 1, 3, none⟩) (by simp) (.int .i64 n.size)).setCell (p := ⟨w.heap.size + 1, 4, none⟩) (by simp) (.int .i64 n.count)).setCell (p := ⟨w.heap.size + 1, 5, none⟩) (by simp) (.slice A2 n.items.length c2)
 have huw := (((((((Upon.refl (w.heap.size + 3) w2).setCell (p := ⟨w.heap.size + 1 + 1, 5, none⟩) (by simp) (.slice A2 n.items.length c2)).setCell (p := ⟨w.heap.size + 1, 0, none⟩) (by simp) (.int .i64 n.kind)).setCell (p := ⟨w.heap.size + 1, 1, none⟩) (by simp) (.string n.data)).setCell (p := ⟨w.heap.size + 1, 2, none⟩) (by simp) (.slice A1 n.ptrs.length c1)).setCell (p := ⟨w.heap.size + 1, 3, none⟩) (by simp) (.int .i64 n.size)).setCell (p := ⟨w.heap.size + 1, 4, none⟩) (by simp) (.int .i64 n.count)).setCell (p := ⟨w.heap.size + 1, 5, none⟩) (by simp) (.slice A2 n.items.length c2)
 generalize (((((((w2.setCell ⟨w.heap.size + 1 + 1, 5, none⟩ (.slice A2 n.items.length c2)).setCell ⟨w.heap.size + 1, 0, none⟩ (.int .i64 n.kind)).setCell ⟨w.heap.size + 1, 1, none⟩ (.string n.data)).setCell ⟨w.heap.size + 1, 2, none⟩ (.slice A1 n.ptrs.length c1)).setCell ⟨w.heap.size + 1, 3, none⟩ (.int .i64 n.size)).setCell ⟨w.heap.size + 1, 4, none⟩ (.int .i64 n.count)).setCell ⟨w.heap.size + 1, 5, none⟩ (.slice A2 n.items.length c2)) = W at *
 obtain ⟨e0, e1, e2, e3, e4, e5⟩ := cells6 kw
 exact bodyPost_ret (v := .agg #[.int .i64 n.kind, .string n.data, .slice A1 n.ptrs.length c1, .int .i64 n.size, .int .i64 n.count, .slice A2 n.items.length c2])
  (by simp [results, Tryz.results9, go_sem, e0, e1, e2, e3, e4, e5]) rfl ⟨⟨A1, c1, A2, c2⟩, bs1 ++ bs2, rfl, ⟨HN.out.1, bs1, bs2, rfl, HN1.out.frame _ _ _ _ _ (fun b hb => by
   obtain ⟨g1, g2⟩ := HG1.out.2 b hb
   exact huw.block b g1 (by omega)), HN2.out.frame _ _ _ _ _ (fun b hb => by
   obtain ⟨g1, g2⟩ := HG2.out.2 b hb
   have := HS1.out
   have := HS3.out
   exact huw.block b (by omega) g2)⟩, List.nodup_append.2 ⟨HG1.out.1, HG2.out.1, fun a ha b hb e => by
   have g1 := (HG1.out.2 a ha).2
   have g2 := (HG2.out.2 b hb).1
   omega⟩, fun b hb => by
   rcases List.mem_append.1 hb with hb | hb
   · have := (HG1.out.2 b hb).1
     omega
   · have := (HG2.out.2 b hb).1
     have := HS1.out
     have := HS3.out
     omega, hbw⟩
theorem toSO_zero : ToSO 0 := by
 intro A c l w S hl ht
 obtain rfl := hl.zero
 obtain ⟨i0, hi, hz0, hz1, hz2⟩ := info_parts infoNd
 have hmk : ∀ w : World, (Instr.makeSlice nodesT (.int .i64 0) (.int .i64 0)).run Tryz.prog w = .ok (.slice (some ⟨w.heap.size, 0, none⟩) 0 0) (w.alloc (.cells (madeCells #[.int .i64 0, .string ByteArray.empty, .slice none 0 0, .int .i64 0, .int .i64 0, .slice none 0 0] 0) nodeT)) := fun w => by
  have := run_make (P := Tryz.prog) w nodesT nodeT i0 _ Tryz.underlying28 hi hz0 .i64 .i64 0 0 (by omega) (Int.le_refl _) (by rw [hz2]; omega) (by omega)
  rw [hz1] at this
  exact this
 clear ht
 go_enter Tryz.func34, Tryz.ntmps34
 go_wp2
 go_loopw [4] (fun i wr => i = .int .i64 0 ∧ Hid (Below w.heap.size w wr ∧ wr.heap[w.heap.size]? = some (.cells (madeCells #[.int .i64 0, .string ByteArray.empty, .slice none 0 0, .int .i64 0, .int .i64 0, .slice none 0 0] 0) nodeT (0, 0)))) (fun _ _ => 0)
 case atStart => exact ⟨rfl, Lib.hid ⟨(Below.refl _ _).alloc (Nat.le_refl _) _, heap_alloc_new w _⟩⟩
 case round =>
  obtain ⟨rfl, HB⟩ := hrel
  go_wp2
  go_ret
  exact ⟨some ⟨w.heap.size, 0, none⟩, 0, [w.heap.size], rfl, ⟨rfl, ⟨rfl, .inr ⟨w.heap.size, 0, _, rfl, Nat.zero_le _, HB.out.2, Nat.le_refl _, by decide, by rw [size_madeCells], rfl⟩⟩, rfl⟩, List.nodup_cons.2 ⟨by simp, List.nodup_nil⟩, fun b hb => by obtain rfl := List.mem_singleton.1 hb; exact Nat.le_refl _, HB.out.1⟩
theorem toSO_succ (m : Nat) (hN : ToNO m) : ToSO (m + 1) := by
 intro A c l w S hl ht
 have hlm : l.length ≤ 2000000 := Nat.le_trans (totL_len m l) ht
 obtain ⟨i0, hi, hz0, hz1, hz2⟩ := info_parts infoNd
 have hmk : ∀ w : World, (Instr.makeSlice nodesT (.int .i64 (l.length : Int)) (.int .i64 (l.length : Int))).run Tryz.prog w = .ok (.slice (some ⟨w.heap.size, 0, none⟩) l.length l.length) (w.alloc (.cells (madeCells #[.int .i64 0, .string ByteArray.empty, .slice none 0 0, .int .i64 0, .int .i64 0, .slice none 0 0] (l.length * 6)) nodeT)) := fun w => by
  have := run_make (P := Tryz.prog) w nodesT nodeT i0 _ Tryz.underlying28 hi hz0 .i64 .i64 (l.length : Int) (l.length : Int) (by omega) (Int.le_refl _) (by rw [hz2]; omega) (by omega)
  rw [hz1] at this
  simp only [Int.toNat_natCast] at this
  exact this
 have HF := Lib.hid hl
 have HN := Lib.hid hN
 have HT : Hid (∀ k (h : k < l.length), totN m l[k] ≤ 2000000) := Lib.hid fun k h => by have := totL_at (m := m) h; omega
 clear hl hN ht
 go_enter Tryz.func34, Tryz.ntmps34
 go_wp2
 have HROW := Lib.hid (heap_alloc_new w (.cells (madeCells #[.int .i64 0, .string ByteArray.empty, .slice none 0 0, .int .i64 0, .int .i64 0, .slice none 0 0] (l.length * 6)) nodeT))
 obtain ⟨x, hx⟩ : ∃ x : Addr, x = ⟨w.heap.size, 0, none⟩ := ⟨_, rfl⟩
 rw [← hx]
 have HX := Lib.hid hx
 clear hx hmk
 go_loopw [4] (fun i wr => ∃ k : Nat, i = .int .i64 k ∧ k ≤ l.length ∧ Hid (ToR l w.heap.size m k wr) ∧ Hid (Below w.heap.size w wr)) (fun i _ => l.length - (intOf i).toNat)
 case atStart => exact ⟨0, rfl, by omega, Lib.hid ⟨_, [], HROW.out, by rw [size_madeCells], rfl, fun j u h => by simp [rowB, rowOf] at h, fun r h => (by cases h), List.nodup_nil, fun b h => (by cases h)⟩, Lib.hid ((Below.refl _ _).alloc (Nat.le_refl _) _)⟩
 case round =>
  obtain ⟨k, rfl, hk, HA, HB⟩ := hrel
  by_cases hlt : k < l.length
  · obtain ⟨y, hd, rfl, hc, hn⟩ := (HF.out.below HB.out).at_ hlt
    obtain ⟨arr, q, hrow, hsz, hq, harr, hqn, hqd, hqb⟩ := HA.out
    have hql : q.length = k := by have := congrArg List.length hq; simp at this; omega
    have htk : l.take (k + 1) = l.take k ++ [l[k]] := List.take_succ_eq_append_getElem hlt
    have htn := HT.out k hlt
    generalize l[k] = n at hc hn htk htn
    obtain ⟨d0, d1, d2, d3, d4, d5⟩ := hc
    have hrlt := row_lt hrow
    have HP := Lib.hid (HN.out n hd wr S hn htn)
    have HROWK := Lib.hid hrow
    have HSZ := Lib.hid hsz
    have HQ := Lib.hid (And.intro hq (And.intro harr (And.intro hqn (And.intro hql htk))))
    have HQD := Lib.hid (And.intro hqd hqb)
    clear hq harr hqn hql htk hn htn hqd hqb
    go_wp2_with fail
    refine HP.out.mono ?_
    rintro e w2 ⟨h2, bs2, rfl, hn2, hnd2, hge2, hb2⟩
    have hrow2 := (hb2.block w.heap.size hrlt).trans HROWK.out
    obtain ⟨v0, hv0⟩ := some_at0 (i := k * 6) hsz (by omega)
    obtain ⟨v1, hv1⟩ := some_at0 (i := k * 6 + 1) hsz (by omega)
    obtain ⟨v2, hv2⟩ := some_at0 (i := k * 6 + 2) hsz (by omega)
    obtain ⟨v3, hv3⟩ := some_at0 (i := k * 6 + 3) hsz (by omega)
    obtain ⟨v4, hv4⟩ := some_at0 (i := k * 6 + 4) hsz (by omega)
    obtain ⟨v5, hv5⟩ := some_at0 (i := k * 6 + 5) hsz (by omega)
    have hadd : x.add (k * 6) = ⟨w.heap.size, k * 6, none⟩ := by rw [HX.out, add_zero0]
    have p0 : w2.cell? ⟨w.heap.size, k * 6, none⟩ = some v0 := by rw [cell_of_row _ _ _ _ _ _ hrow2]; exact hv0
    have p1 : w2.cell? ⟨w.heap.size, k * 6 + 1, none⟩ = some v1 := by rw [cell_of_row _ _ _ _ _ _ hrow2]; exact hv1
    have p2 : w2.cell? ⟨w.heap.size, k * 6 + 2, none⟩ = some v2 := by rw [cell_of_row _ _ _ _ _ _ hrow2]; exact hv2
    have p3 : w2.cell? ⟨w.heap.size, k * 6 + 3, none⟩ = some v3 := by rw [cell_of_row _ _ _ _ _ _ hrow2]; exact hv3
    have p4 : w2.cell? ⟨w.heap.size, k * 6 + 4, none⟩ = some v4 := by rw [cell_of_row _ _ _ _ _ _ hrow2]; exact hv4
    have p5 : w2.cell? ⟨w.heap.size, k * 6 + 5, none⟩ = some v5 := by rw [cell_of_row _ _ _ _ _ _ hrow2]; exact hv5
    have z0 := row_free hrow2
    have HR2 := Lib.hid hrow2
    have HB2 := Lib.hid (HB.out.trans (hb2.mono HB.out.size))
    have HN2 := Lib.hid hn2
    have HD2 := Lib.hid (And.intro hnd2 hge2)
    have HQ2 : Hid (∀ r ∈ q, OwN w2 m r.1 r.2.1 r.2.2) := Lib.hid fun r hr => (HQ.out.2.2.1 r hr).below hb2
    have HQL : Hid (∀ b ∈ blkB q, b < wr.heap.size) := Lib.hid fun b hb => by
     obtain ⟨r, hr, hbr⟩ := List.mem_flatMap.1 hb
     exact ((HQ.out.2.2.1 r hr).lt b hbr).1
    clear hnd2 hge2 hrow hsz hrow2 hb2 hv0 hv1 hv2 hv3 hv4 hv5 hn2
    go_wp2
    go_roundw
    case rel =>
     refine ⟨k + 1, by go_num, by omega, Lib.hid ⟨_, q ++ [(n, h2, bs2)], row_setN (row_setN (row_setN (row_setN (row_setN (row_setN HR2.out (k * 6) _) (k * 6 + 1) _) (k * 6 + 2) _) (k * 6 + 3) _) (k * 6 + 4) _) (k * 6 + 5) _, by simp [HSZ.out], ?_, ?_, ?_, ?_, ?_⟩, Lib.hid ?_⟩
     · rw [List.map_append, HQ.out.1, HQ.out.2.2.2.2]; rfl
     · have h0 : (q.map fun r : NB => (r.1, r.2.1)).length = k := by rw [List.length_map]; exact HQ.out.2.2.2.1
       have := arr_step (q := q.map fun r : NB => (r.1, r.2.1)) HQ.out.2.1 HSZ.out (by rw [h0]; omega) (n, h2)
       rw [h0] at this
       unfold rowB
       rw [List.map_append]
       exact this
     · have hu := (((((((Upon.refl (w.heap.size + 1) w2).setCell (p := ⟨w.heap.size, k * 6, none⟩) (by simp) (.int .i64 n.kind)).setCell (p := ⟨w.heap.size, k * 6 + 1, none⟩) (by simp) (.string n.data)).setCell (p := ⟨w.heap.size, k * 6 + 2, none⟩) (by simp) (.slice h2.A n.ptrs.length h2.a)).setCell (p := ⟨w.heap.size, k * 6 + 3, none⟩) (by simp) (.int .i64 n.size)).setCell (p := ⟨w.heap.size, k * 6 + 4, none⟩) (by simp) (.int .i64 n.count)).setCell (p := ⟨w.heap.size, k * 6 + 5, none⟩) (by simp) (.slice h2.B n.items.length h2.b))
       intro r hr
       rcases List.mem_append.1 hr with hr | hr
       · exact (HQ2.out r hr).frame (fun b hb => hu.block b (HQD.out.2 b (List.mem_flatMap.2 ⟨r, hr, hb⟩)) ((HQ2.out r hr).lt b hb).1)
       · obtain rfl := List.mem_singleton.1 hr
         exact HN2.out.frame (fun b hb => hu.block b (by have := HD2.out.2 b hb; omega) (HN2.out.lt b hb).1)
     · rw [blkB_snoc]
       exact List.nodup_append.2 ⟨HQD.out.1, HD2.out.1, fun a ha b hb e => by have := HQL.out a ha; have := HD2.out.2 b hb; omega⟩
     · intro b hb
       rw [blkB_snoc] at hb
       rcases List.mem_append.1 hb with hb | hb
       · exact HQD.out.2 b hb
       · have := HD2.out.2 b hb
         omega
     · exact (((((HB2.out.setCell (p := ⟨w.heap.size, k * 6, none⟩) (Nat.le_refl _) _).setCell (p := ⟨w.heap.size, k * 6 + 1, none⟩) (Nat.le_refl _) _).setCell (p := ⟨w.heap.size, k * 6 + 2, none⟩) (Nat.le_refl _) _).setCell (p := ⟨w.heap.size, k * 6 + 3, none⟩) (Nat.le_refl _) _).setCell (p := ⟨w.heap.size, k * 6 + 4, none⟩) (Nat.le_refl _) _).setCell (p := ⟨w.heap.size, k * 6 + 5, none⟩) (Nat.le_refl _) _
    case measure => simp [intOf]; omega
  · obtain rfl : k = l.length := by omega
    have HRES := Lib.hid (HA.out.done (by unfold maxLen; omega))
    have HX2 := HX
    clear HA
    go_wp2
    go_ret
    rw [HX2.out]
    obtain ⟨bs, o1, o2, o3⟩ := HRES.out
    exact ⟨_, _, bs, rfl, o1, o2, o3, HB.out⟩
theorem toSO_any : ∀ m, ToSO m
 | 0 => toSO_zero
 | m + 1 => toSO_succ m (toNO_of m (toSO_any m))
theorem toNO_any (m : Nat) : ToNO m := toNO_of m (toSO_any m)
open Go.RowKit Go.Deep
abbrev VB := Vl × Hd × List Nat
def blkV (q : List VB) : List Nat := q.flatMap (·.2.2)
def C7 (arr : Array Value) (o : Nat) (r : VB) : Prop := arr[o]? = some (.int .i64 r.1.num) ∧ arr[o + 1]? = some (.int .i64 r.1.nd.kind) ∧ arr[o + 2]? = some (.string r.1.nd.data) ∧ arr[o + 3]? = some (.slice r.2.1.A r.1.nd.ptrs.length r.2.1.a) ∧ arr[o + 4]? = some (.int .i64 r.1.nd.size) ∧ arr[o + 5]? = some (.int .i64 r.1.nd.count) ∧ arr[o + 6]? = some (.slice r.2.1.B r.1.nd.items.length r.2.1.b)
def put7 (arr : Array Value) (o : Nat) (r : VB) : Array Value := ((((((arr.setIfInBounds o (.int .i64 r.1.num)).setIfInBounds (o + 1) (.int .i64 r.1.nd.kind)).setIfInBounds (o + 2) (.string r.1.nd.data)).setIfInBounds (o + 3) (.slice r.2.1.A r.1.nd.ptrs.length r.2.1.a)).setIfInBounds (o + 4) (.int .i64 r.1.nd.size)).setIfInBounds (o + 5) (.int .i64 r.1.nd.count)).setIfInBounds (o + 6) (.slice r.2.1.B r.1.nd.items.length r.2.1.b)
theorem put7_size (arr : Array Value) (o : Nat) (r : VB) : (put7 arr o r).size = arr.size := by unfold put7; simp
theorem C7.put {arr : Array Value} {o : Nat} {r : VB} (h : o + 7 ≤ arr.size) : C7 (put7 arr o r) o r := by
 unfold C7 put7
 refine ⟨?_, ?_, ?_, ?_, ?_, ?_, ?_⟩ <;> (simp only [Array.getElem?_setIfInBounds, Array.size_setIfInBounds]; repeat (first | rfl | (rw [if_pos trivial]) | (rw [if_pos (by omega)]) | (rw [if_neg (by omega)])))
theorem C7.keep {arr : Array Value} {o p : Nat} {r r' : VB} (h : C7 arr p r') (hd : p + 7 ≤ o ∨ o + 7 ≤ p) : C7 (put7 arr o r) p r' := by
 have : ∀ i, i < 7 → (put7 arr o r)[p + i]? = arr[p + i]? := fun i hi => by
  unfold put7
  simp only [Array.getElem?_setIfInBounds]
  repeat (first | rfl | (rw [if_neg (by omega)]))
 obtain ⟨h0, h1, h2, h3, h4, h5, h6⟩ := h
 exact ⟨(this 0 (by decide)).trans h0, (this 1 (by decide)).trans h1, (this 2 (by decide)).trans h2, (this 3 (by decide)).trans h3, (this 4 (by decide)).trans h4, (this 5 (by decide)).trans h5, (this 6 (by decide)).trans h6⟩
def VsO (w : World) (m g : Nat) (vs : List Vl) (bs : List Nat) : Prop :=
 ∃ (q : List VB) (arr : Array Value), q.map (·.1) = vs ∧ bs = g :: blkV q ∧ w.heap[g]? = some (.cells arr valT (0, 0)) ∧ arr.size = vs.length * 7 ∧ (∀ j r, q[j]? = some r → C7 arr (j * 7) r) ∧ ∀ r ∈ q, OwN w m r.1.nd r.2.1 r.2.2
theorem VsO.lt {w : World} {m g : Nat} {vs : List Vl} {bs : List Nat} (h : VsO w m g vs bs) : ∀ b ∈ bs, b < w.heap.size := by
 obtain ⟨q, arr, -, rfl, hrow, -, -, hq⟩ := h
 intro b hb
 rcases List.mem_cons.1 hb with rfl | hb
 · exact row_lt hrow
 · obtain ⟨r, hr, hbr⟩ := List.mem_flatMap.1 hb
   exact ((hq r hr).lt b hbr).1
theorem VsO.frame {w w' : World} {m g : Nat} {vs : List Vl} {bs : List Nat} (h : VsO w m g vs bs) (hf : ∀ b ∈ bs, w'.heap[b]? = w.heap[b]?) : VsO w' m g vs bs := by
 obtain ⟨q, arr, h1, h2, hrow, h3, h4, hq⟩ := h
 subst h2
 exact ⟨q, arr, h1, rfl, (hf g List.mem_cons_self).trans hrow, h3, h4, fun r hr => (hq r hr).frame (fun b hb => hf b (List.mem_cons_of_mem _ (List.mem_flatMap.2 ⟨r, hr, hb⟩)))⟩
theorem VsO.below {w w' : World} {m g : Nat} {vs : List Vl} {bs : List Nat} (h : VsO w m g vs bs) (hb : Below w.heap.size w w') : VsO w' m g vs bs := h.frame (fun b hm => hb.block b (h.lt b hm))
theorem VsO.vals {w : World} {m g : Nat} {vs : List Vl} {bs : List Nat} (h : VsO w m g vs bs) : ValsAt w Any m (some ⟨g, 0, none⟩) vs := by
 obtain ⟨q, arr, rfl, -, hrow, -, h4, hq⟩ := h
 refine .inr ⟨_, rfl, row_lt hrow, fun i hi => ?_⟩
 have hi' : i < q.length := by simpa using hi
 obtain ⟨c0, c1, c2, c3, c4, c5, c6⟩ := h4 i _ (List.getElem?_eq_getElem hi')
 have hn := hq _ (List.getElem_mem hi')
 have ha : (⟨g, 0, none⟩ : Addr).add (i * 7) = ⟨g, i * 7, none⟩ := add_zero0 _ _
 rw [List.getElem_map, ha]
 refine ⟨(q[i]).2.1, by rw [cell_of_row _ _ _ _ _ _ hrow]; exact c0, ⟨?_, ?_, ?_, ?_, ?_, ?_⟩, hn.nd.weak (fun _ _ => trivial)⟩
 · rw [cell_of_row _ _ _ _ _ _ hrow]; exact c1
 · rw [cell_of_row _ _ _ _ _ _ hrow]; exact c2
 · rw [cell_of_row _ _ _ _ _ _ hrow]; exact c3
 · rw [cell_of_row _ _ _ _ _ _ hrow]; exact c4
 · rw [cell_of_row _ _ _ _ _ _ hrow]; exact c5
 · rw [cell_of_row _ _ _ _ _ _ hrow]; exact c6
def MkV (arr0 : Array Value) (g k : Nat) (W : World) : Prop := ∃ arr, W.heap[g]? = some (.cells arr valT (0, 0)) ∧ arr.size = arr0.size ∧ ∀ p, (p < k * 7 ∨ k * 7 + 7 ≤ p ∨ p = k * 7 + 3 ∨ p = k * 7 + 6) → arr[p]? = arr0[p]?
theorem MkV.store {arr0 : Array Value} {g k : Nat} {W : World} (h : MkV arr0 g k W) (i : Nat) (v : Value) (hi : i < 7 ∧ i ≠ 3 ∧ i ≠ 6) : MkV arr0 g k (W.setCell ⟨g, k * 7 + i, none⟩ v) := by
 obtain ⟨arr, h1, h2, h3⟩ := h
 refine ⟨_, row_setN h1 (k * 7 + i) v, by simpa using h2, fun p hp => ?_⟩
 rw [Array.getElem?_setIfInBounds, if_neg (by omega)]
 exact h3 p hp
theorem MkV.cell {arr0 : Array Value} {g k : Nat} {W : World} (h : MkV arr0 g k W) (i : Nat) (hi : i < 7) (hk : k * 7 + 7 ≤ arr0.size) : ∃ v, W.cell? ⟨g, k * 7 + i, none⟩ = some v := by
 obtain ⟨arr, h1, h2, -⟩ := h
 rw [cell_of_row _ _ _ _ _ _ h1]
 exact ⟨_, Array.getElem?_eq_getElem (by omega)⟩
theorem MkV.free {arr0 : Array Value} {g k : Nat} {W : World} (h : MkV arr0 g k W) (i : Nat) : W.frozen? ⟨g, i, none⟩ = false := by
 obtain ⟨arr, h1, -⟩ := h
 exact row_free h1 i
theorem MkV.got {arr0 : Array Value} {g k : Nat} {W : World} (h : MkV arr0 g k W) (i : Nat) (hi : i = 3 ∨ i = 6) : W.cell? ⟨g, k * 7 + i, none⟩ = arr0[k * 7 + i]? := by
 obtain ⟨arr, h1, -, h3⟩ := h
 rw [cell_of_row _ _ _ _ _ _ h1]
 exact h3 _ (by omega)
theorem MkV.keep {arr0 : Array Value} {g k : Nat} {W W' : World} (h : MkV arr0 g k W) (hb : W'.heap[g]? = W.heap[g]?) : MkV arr0 g k W' := by
 obtain ⟨arr, h1, h2, h3⟩ := h
 exact ⟨arr, hb.trans h1, h2, h3⟩
end Go.Proofs.YtehhbbdaeonebaaGreatDoor
