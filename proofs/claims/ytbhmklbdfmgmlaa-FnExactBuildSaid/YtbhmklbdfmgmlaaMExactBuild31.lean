/- Texts of the proof of the law FnExactBuild, side by side: part 31. -/
import Derived.Lib.AppendZerosOnto
import Derived.RangeFuncNested
import Derived.RangeFuncBound
import Derived.RangeFuncCalls
import Derived.RangeFuncLeaves
import Derived.Shelf.Abstract
import Derived.Shelf.RegionOpen
import Derived.WalkKit
import Derived.OwnWalkIn
import Derived.TacticsInMore
import Derived.LoopNIn
import Derived.LoopIn
import Derived.Deep.RegionLaw
import Derived.Deep.RegionWith
import Derived.Deep.DeepMust
import Derived.Test.YtbhmklbdfmgmlaaMExactBuild00
import Derived.Test.YtbhmklbdfmgmlaaMExactBuild01
import Derived.Test.YtbhmklbdfmgmlaaMExactBuild02
import Derived.Test.YtbhmklbdfmgmlaaMExactBuild03
import Derived.Test.YtbhmklbdfmgmlaaMExactBuild04
import Derived.Test.YtbhmklbdfmgmlaaMExactBuild05
import Derived.Test.YtbhmklbdfmgmlaaMExactBuild06
import Derived.Test.YtbhmklbdfmgmlaaMExactBuild07
import Derived.Test.YtbhmklbdfmgmlaaMExactBuild08
import Derived.Test.YtbhmklbdfmgmlaaMExactBuild09
import Derived.Test.YtbhmklbdfmgmlaaMExactBuild10
import Derived.Test.YtbhmklbdfmgmlaaMExactBuild11
import Derived.Test.YtbhmklbdfmgmlaaMExactBuild12
import Derived.Test.YtbhmklbdfmgmlaaMExactBuild13
import Derived.Test.YtbhmklbdfmgmlaaMExactBuild14
import Derived.Test.YtbhmklbdfmgmlaaMExactBuild15
import Derived.Test.YtbhmklbdfmgmlaaMExactBuild16
import Derived.Test.YtbhmklbdfmgmlaaMExactBuild17
import Derived.Test.YtbhmklbdfmgmlaaMExactBuild18
import Derived.Test.YtbhmklbdfmgmlaaMExactBuild19
import Derived.Test.YtbhmklbdfmgmlaaMExactBuild20
import Derived.Test.YtbhmklbdfmgmlaaMExactBuild21
import Derived.Test.YtbhmklbdfmgmlaaMExactBuild22
import Derived.Test.YtbhmklbdfmgmlaaMExactBuild23
import Derived.Test.YtbhmklbdfmgmlaaMExactBuild24
import Derived.Test.YtbhmklbdfmgmlaaMExactBuild25
import Derived.Test.YtbhmklbdfmgmlaaMExactBuild26
import Derived.Test.YtbhmklbdfmgmlaaMExactBuild27
import Derived.Test.YtbhmklbdfmgmlaaMExactBuild28
import Derived.Test.YtbhmklbdfmgmlaaMExactBuild29
import Derived.Test.YtbhmklbdfmgmlaaMExactBuild30
/- The laws' own copies of nodes: trees of one's own. -/
namespace Go.Proofs.Ytbhmklbdfmgmlaa
open Go.RowKit
/-- so many nodes are copied already, into a row made for all. -/
def ToR (l : List Nd) (B m k : Nat) (wr : World) : Prop := ∃ (arr : Array Value) (q : List NB), wr.heap[B]? = some (.cells arr nodeT (0, 0)) ∧ arr.size = l.length * 6 ∧ q.map (·.1) = l.take k ∧ (∀ (j : Nat) (u : Value), (rowB q)[j]? = some u → arr[j]? = some u) ∧ (∀ r ∈ q, OwN wr m r.1 r.2.1 r.2.2) ∧ (blkB q).Nodup ∧ ∀ b ∈ blkB q, B + 1 ≤ b
theorem ToR.done {l : List Nd} {B m : Nat} {wr : World} (h : ToR l B m l.length wr) : l.length ≤ maxLen → ∃ bs, OwS wr (m + 1) (some ⟨B, 0, none⟩) l.length l bs ∧ bs.Nodup ∧ ∀ b ∈ bs, B ≤ b := by
  intro hlm
  obtain ⟨arr, q, hrow, hsz, hq, harr, hqn, hqd, hqb⟩ := h
  rw [List.take_of_length_le (Nat.le_refl _)] at hq
  have hql : q.length = l.length := by rw [← hq, List.length_map]
  have hrl : (rowB q).length = l.length * 6 := by unfold rowB; rw [rowOf_length, List.length_map, hql]
  have ht : arr.toList.take (l.length * 6) = rowB q := by
    apply List.ext_getElem?
    intro j
    rcases Nat.lt_or_ge j (l.length * 6) with hj | hj
    · rw [List.getElem?_take_of_lt hj, Array.getElem?_toList]
      obtain ⟨u, hu⟩ : ∃ u, (rowB q)[j]? = some u := ⟨_, List.getElem?_eq_getElem (by omega)⟩
      rw [hu]
      exact harr j u hu
    · rw [List.getElem?_eq_none (by rw [List.length_take]; omega), List.getElem?_eq_none (by omega)]
  refine ⟨B :: blkB q, ⟨q, hq, ⟨by rw [hql]; exact hrl, .inr ⟨B, l.length, arr, by rw [hql], Nat.zero_le _, hrow, by omega, hlm, hsz, by rw [hql]; exact ht⟩⟩, rfl, hqn⟩, List.nodup_cons.2 ⟨fun hm => by have := hqb B hm; omega, hqd⟩, fun b hb => ?_⟩
  rcases List.mem_cons.1 hb with rfl | hb
  · exact Nat.le_refl _
  · have := hqb b hb
    omega
def ToSO (m : Nat) : Prop := ∀ (A : Option Addr) (c : Nat) (l : List Nd) (w : World) (S : Nat → Prop), NdsAt w S m A l → totL m l ≤ 2000000 →
  Calls Try.prog 27 #[.slice A l.length c] w (NewOS m l w)
def ToNO (m : Nat) : Prop := ∀ (n : Nd) (h : Hd) (w : World) (S : Nat → Prop), NdAt w S m n h → totN m n ≤ 2000000 →
  Calls Try.prog 9 #[.agg #[.int .i64 n.kind, .string n.data, .slice h.A n.ptrs.length h.a, .int .i64 n.size, .int .i64 n.count, .slice h.B n.items.length h.b]] w (NewO m n w)
set_option maxHeartbeats 4000000 in
set_option maxRecDepth 100000 in
theorem toNO_of (m : Nat) (hS : ToSO m) : ToNO m := by
  intro n h w S hn ht
  have HS := Lib.hid hS
  have HN := Lib.hid hn
  have HT : Hid (totN m n ≤ 2000000) := Lib.hid ht
  have HT1 : Hid (totL m n.ptrs ≤ 2000000) := Lib.hid (by unfold totN at ht; omega)
  have HT2 : Hid (totL m n.items ≤ 2000000) := Lib.hid (by unfold totN at ht; omega)
  clear hS hn ht
  go_enter Try.func9, Try.ntmps9
  go_wp2_with fail
  have hb0 : Below w.heap.size w (((w.alloc (.cells #[.int .i64 n.kind, .string n.data, .slice h.A n.ptrs.length h.a, .int .i64 n.size, .int .i64 n.count, .slice h.B n.items.length h.b] 24)).alloc (.cells #[.int .i64 0, .string { data := #[] }, .slice none 0 0, .int .i64 0, .int .i64 0, .slice none 0 0] nodeT)).alloc (.cells #[.int .i64 n.kind, .string n.data, .slice none 0 0, .int .i64 0, .int .i64 0, .slice none 0 0] nodeT)) := (((Below.refl _ w).alloc (Nat.le_refl _) _).alloc (by simp) _).alloc (by simp; omega) _
  have k0 : (((w.alloc (.cells #[.int .i64 n.kind, .string n.data, .slice h.A n.ptrs.length h.a, .int .i64 n.size, .int .i64 n.count, .slice h.B n.items.length h.b] 24)).alloc (.cells #[.int .i64 0, .string { data := #[] }, .slice none 0 0, .int .i64 0, .int .i64 0, .slice none 0 0] nodeT)).alloc (.cells #[.int .i64 n.kind, .string n.data, .slice none 0 0, .int .i64 0, .int .i64 0, .slice none 0 0] nodeT)).heap[w.heap.size]? = some (.cells #[.int .i64 n.kind, .string n.data, .slice h.A n.ptrs.length h.a, .int .i64 n.size, .int .i64 n.count, .slice h.B n.items.length h.b] 24 (0, 0)) := (Below.heap_alloc _ _ _ (by simp; omega)).trans ((Below.heap_alloc _ _ _ (by simp)).trans (heap_alloc_new w _))
  have k1 : (((w.alloc (.cells #[.int .i64 n.kind, .string n.data, .slice h.A n.ptrs.length h.a, .int .i64 n.size, .int .i64 n.count, .slice h.B n.items.length h.b] 24)).alloc (.cells #[.int .i64 0, .string { data := #[] }, .slice none 0 0, .int .i64 0, .int .i64 0, .slice none 0 0] nodeT)).alloc (.cells #[.int .i64 n.kind, .string n.data, .slice none 0 0, .int .i64 0, .int .i64 0, .slice none 0 0] nodeT)).heap[w.heap.size + 1]? = some (.cells #[.int .i64 0, .string { data := #[] }, .slice none 0 0, .int .i64 0, .int .i64 0, .slice none 0 0] nodeT (0, 0)) := (Below.heap_alloc _ _ _ (by simp)).trans (by have := heap_alloc_new (w.alloc (.cells #[.int .i64 n.kind, .string n.data, .slice h.A n.ptrs.length h.a, .int .i64 n.size, .int .i64 n.count, .slice h.B n.items.length h.b] 24)) (.cells #[.int .i64 0, .string { data := #[] }, .slice none 0 0, .int .i64 0, .int .i64 0, .slice none 0 0] nodeT); rwa [show (w.alloc (.cells #[.int .i64 n.kind, .string n.data, .slice h.A n.ptrs.length h.a, .int .i64 n.size, .int .i64 n.count, .slice h.B n.items.length h.b] 24)).heap.size = w.heap.size + 1 by simp] at this)
  have k2 : (((w.alloc (.cells #[.int .i64 n.kind, .string n.data, .slice h.A n.ptrs.length h.a, .int .i64 n.size, .int .i64 n.count, .slice h.B n.items.length h.b] 24)).alloc (.cells #[.int .i64 0, .string { data := #[] }, .slice none 0 0, .int .i64 0, .int .i64 0, .slice none 0 0] nodeT)).alloc (.cells #[.int .i64 n.kind, .string n.data, .slice none 0 0, .int .i64 0, .int .i64 0, .slice none 0 0] nodeT)).heap[w.heap.size + 1 + 1]? = some (.cells #[.int .i64 n.kind, .string n.data, .slice none 0 0, .int .i64 0, .int .i64 0, .slice none 0 0] nodeT (0, 0)) := by have := heap_alloc_new ((w.alloc (.cells #[.int .i64 n.kind, .string n.data, .slice h.A n.ptrs.length h.a, .int .i64 n.size, .int .i64 n.count, .slice h.B n.items.length h.b] 24)).alloc (.cells #[.int .i64 0, .string { data := #[] }, .slice none 0 0, .int .i64 0, .int .i64 0, .slice none 0 0] nodeT)) (.cells #[.int .i64 n.kind, .string n.data, .slice none 0 0, .int .i64 0, .int .i64 0, .slice none 0 0] nodeT); rwa [show ((w.alloc (.cells #[.int .i64 n.kind, .string n.data, .slice h.A n.ptrs.length h.a, .int .i64 n.size, .int .i64 n.count, .slice h.B n.items.length h.b] 24)).alloc (.cells #[.int .i64 0, .string { data := #[] }, .slice none 0 0, .int .i64 0, .int .i64 0, .slice none 0 0] nodeT)).heap.size = w.heap.size + 1 + 1 by simp] at this
  have hs3 : (((w.alloc (.cells #[.int .i64 n.kind, .string n.data, .slice h.A n.ptrs.length h.a, .int .i64 n.size, .int .i64 n.count, .slice h.B n.items.length h.b] 24)).alloc (.cells #[.int .i64 0, .string { data := #[] }, .slice none 0 0, .int .i64 0, .int .i64 0, .slice none 0 0] nodeT)).alloc (.cells #[.int .i64 n.kind, .string n.data, .slice none 0 0, .int .i64 0, .int .i64 0, .slice none 0 0] nodeT)).heap.size = w.heap.size + 3 := by simp
  generalize (((w.alloc (.cells #[.int .i64 n.kind, .string n.data, .slice h.A n.ptrs.length h.a, .int .i64 n.size, .int .i64 n.count, .slice h.B n.items.length h.b] 24)).alloc (.cells #[.int .i64 0, .string { data := #[] }, .slice none 0 0, .int .i64 0, .int .i64 0, .slice none 0 0] nodeT)).alloc (.cells #[.int .i64 n.kind, .string n.data, .slice none 0 0, .int .i64 0, .int .i64 0, .slice none 0 0] nodeT)) = W3 at *
  refine (HS.out h.A h.a n.ptrs W3 S (HN.out.below hb0).2.1 HT1.out).mono ?_
  rintro e w1 ⟨A1, c1, bs1, rfl, hn1, hnd1, hge1, hb1⟩
  have HG1 : Hid (bs1.Nodup ∧ ∀ b ∈ bs1, w.heap.size + 3 ≤ b ∧ b < w1.heap.size) := Lib.hid ⟨hnd1, fun b hb => ⟨by have := hge1 b hb; omega, (hn1.lt _ _ _ _ _ b hb).1⟩⟩
  have HN1 := Lib.hid hn1
  have k0' := (hb1.block _ (by omega)).trans k0
  have k1' := (hb1.block _ (by omega)).trans k1
  have k2' := (hb1.block _ (by omega)).trans k2
  have HB1 := Lib.hid (hb0.trans (hb1.mono (by omega)))
  have HS3 := Lib.hid hs3
  have HS1 := Lib.hid hb1.size
  have HK0 := Lib.hid k0'
  have HK1 := Lib.hid k1'
  have HK2 := Lib.hid k2'
  obtain ⟨a0, a1, a2, a3, a4, a5⟩ := cells6 k0'
  obtain ⟨b0, b1, b2, b3, b4, b5⟩ := cells6 k2'
  have f2 := row_free k2'
  clear hnd1 hge1 hn1 hb1 k0 k1 k2 k0' k1' k2' hs3 hb0
  go_wp2_with fail
  have hu5 : Upon (w.heap.size + 3) w1 (((w1.setCell ⟨w.heap.size + 1 + 1, 2, none⟩ (.slice A1 n.ptrs.length c1)).setCell ⟨w.heap.size + 1 + 1, 3, none⟩ (.int .i64 n.size)).setCell ⟨w.heap.size + 1 + 1, 4, none⟩ (.int .i64 n.count)) := (((Upon.refl _ w1).setCell (p := ⟨w.heap.size + 1 + 1, 2, none⟩) (by simp) _).setCell (p := ⟨w.heap.size + 1 + 1, 3, none⟩) (by simp) _).setCell (p := ⟨w.heap.size + 1 + 1, 4, none⟩) (by simp) _
  have hb5 : Below w.heap.size w (((w1.setCell ⟨w.heap.size + 1 + 1, 2, none⟩ (.slice A1 n.ptrs.length c1)).setCell ⟨w.heap.size + 1 + 1, 3, none⟩ (.int .i64 n.size)).setCell ⟨w.heap.size + 1 + 1, 4, none⟩ (.int .i64 n.count)) := ((HB1.out.setCell (p := ⟨w.heap.size + 1 + 1, 2, none⟩) (by simp; omega) _).setCell (p := ⟨w.heap.size + 1 + 1, 3, none⟩) (by simp; omega) _).setCell (p := ⟨w.heap.size + 1 + 1, 4, none⟩) (by simp; omega) _
  have j0 : ((((w1.setCell ⟨w.heap.size + 1 + 1, 2, none⟩ (.slice A1 n.ptrs.length c1)).setCell ⟨w.heap.size + 1 + 1, 3, none⟩ (.int .i64 n.size)).setCell ⟨w.heap.size + 1 + 1, 4, none⟩ (.int .i64 n.count))).heap[w.heap.size]? = some (.cells #[.int .i64 n.kind, .string n.data, .slice h.A n.ptrs.length h.a, .int .i64 n.size, .int .i64 n.count, .slice h.B n.items.length h.b] 24 (0, 0)) := (Below.heap_setCell _ _ _ _ (by simp; omega)).trans ((Below.heap_setCell _ _ _ _ (by simp; omega)).trans ((Below.heap_setCell _ _ _ _ (by simp; omega)).trans HK0.out))
  have j1 : ((((w1.setCell ⟨w.heap.size + 1 + 1, 2, none⟩ (.slice A1 n.ptrs.length c1)).setCell ⟨w.heap.size + 1 + 1, 3, none⟩ (.int .i64 n.size)).setCell ⟨w.heap.size + 1 + 1, 4, none⟩ (.int .i64 n.count))).heap[w.heap.size + 1]? = some (.cells #[.int .i64 0, .string { data := #[] }, .slice none 0 0, .int .i64 0, .int .i64 0, .slice none 0 0] nodeT (0, 0)) := (Below.heap_setCell _ _ _ _ (by simp)).trans ((Below.heap_setCell _ _ _ _ (by simp)).trans ((Below.heap_setCell _ _ _ _ (by simp)).trans HK1.out))
  have j2 : ((((w1.setCell ⟨w.heap.size + 1 + 1, 2, none⟩ (.slice A1 n.ptrs.length c1)).setCell ⟨w.heap.size + 1 + 1, 3, none⟩ (.int .i64 n.size)).setCell ⟨w.heap.size + 1 + 1, 4, none⟩ (.int .i64 n.count))).heap[w.heap.size + 1 + 1]? = some (.cells #[.int .i64 n.kind, .string n.data, .slice A1 n.ptrs.length c1, .int .i64 n.size, .int .i64 n.count, .slice none 0 0] nodeT (0, 0)) := row_setN (row_setN (row_setN HK2.out 2 _) 3 _) 4 _
  have hn5 : OwS (((w1.setCell ⟨w.heap.size + 1 + 1, 2, none⟩ (.slice A1 n.ptrs.length c1)).setCell ⟨w.heap.size + 1 + 1, 3, none⟩ (.int .i64 n.size)).setCell ⟨w.heap.size + 1 + 1, 4, none⟩ (.int .i64 n.count)) m A1 c1 n.ptrs bs1 := HN1.out.frame _ _ _ _ _ (fun b hb => hu5.block b (HG1.out.2 b hb).1 (HG1.out.2 b hb).2)
  have hs15 : w1.heap.size ≤ (((w1.setCell ⟨w.heap.size + 1 + 1, 2, none⟩ (.slice A1 n.ptrs.length c1)).setCell ⟨w.heap.size + 1 + 1, 3, none⟩ (.int .i64 n.size)).setCell ⟨w.heap.size + 1 + 1, 4, none⟩ (.int .i64 n.count)).heap.size := hu5.size
  have hs5 : w.heap.size + 3 ≤ ((((w1.setCell ⟨w.heap.size + 1 + 1, 2, none⟩ (.slice A1 n.ptrs.length c1)).setCell ⟨w.heap.size + 1 + 1, 3, none⟩ (.int .i64 n.size)).setCell ⟨w.heap.size + 1 + 1, 4, none⟩ (.int .i64 n.count))).heap.size := by have := hu5.size; have := HS1.out; have := HS3.out; omega
  generalize (((w1.setCell ⟨w.heap.size + 1 + 1, 2, none⟩ (.slice A1 n.ptrs.length c1)).setCell ⟨w.heap.size + 1 + 1, 3, none⟩ (.int .i64 n.size)).setCell ⟨w.heap.size + 1 + 1, 4, none⟩ (.int .i64 n.count)) = W5 at *
  have HN5 := Lib.hid hn5
  have HS5 := Lib.hid hs5
  clear a0 a1 a2 a3 a4 a5 b0 b1 b2 b3 b4 b5 f2 hu5 HK0 HK1 HK2 HN1
  refine (HS.out h.B h.b n.items W5 S (HN.out.below hb5).2.2 HT2.out).mono ?_
  rintro e w2 ⟨A2, c2, bs2, rfl, hn2, hnd2, hge2, hb2⟩
  have HG2 : Hid (bs2.Nodup ∧ ∀ b ∈ bs2, w1.heap.size ≤ b ∧ b < w2.heap.size) := Lib.hid ⟨hnd2, fun b hb => ⟨by have := hge2 b hb; omega, (hn2.lt _ _ _ _ _ b hb).1⟩⟩
  have hs52 := hb2.size
  have HN2 := Lib.hid hn2
  have HN1 := Lib.hid (HN5.out.below hb2)
  have HB2 := Lib.hid (hb5.trans (hb2.mono hb5.size))
  have k1 := (hb2.block _ (by omega)).trans j1
  have k2 := (hb2.block _ (by omega)).trans j2
  have hc0 : ∀ u i, (w2.setCell ⟨w.heap.size + 1 + 1, 5, none⟩ u).cell? ⟨w.heap.size + 1, i, none⟩ = (#[.int .i64 0, .string { data := #[] }, .slice none 0 0, .int .i64 0, .int .i64 0, .slice none 0 0] : Array Value)[i]? := fun u i => cell_of_row _ _ _ _ _ _ ((Below.heap_setCell w2 ⟨w.heap.size + 1 + 1, 5, none⟩ u (w.heap.size + 1) (by simp)).trans k1)
  obtain ⟨b0, b1, b2, b3, b4, b5⟩ := cells6 k2
  have f2 := row_free k2
  have hf1 : ∀ u i, (w2.setCell ⟨w.heap.size + 1 + 1, 5, none⟩ u).frozen? ⟨w.heap.size + 1, i, none⟩ = false := fun u i => row_free ((Below.heap_setCell w2 ⟨w.heap.size + 1 + 1, 5, none⟩ u (w.heap.size + 1) (by simp)).trans k1) i
  have HK1 := Lib.hid k1
  have HK2 := Lib.hid k2
  clear hnd2 hge2 k1 k2 j0 j1 j2 hn5 hs5 hb5 hn2 hb2 HN5
  go_wp2_with fail
  have kw := row_setN (row_setN (row_setN (row_setN (row_setN (row_setN ((Below.heap_setCell w2 ⟨w.heap.size + 1 + 1, 5, none⟩ (.slice A2 n.items.length c2) (w.heap.size + 1) (by simp)).trans HK1.out) 0 (.int .i64 n.kind)) 1 (.string n.data)) 2 (.slice A1 n.ptrs.length c1)) 3 (.int .i64 n.size)) 4 (.int .i64 n.count)) 5 (.slice A2 n.items.length c2)
  have hbw := ((((((HB2.out.setCell (p := ⟨w.heap.size + 1 + 1, 5, none⟩) (by simp; omega) (.slice A2 n.items.length c2)).setCell (p := ⟨w.heap.size + 1, 0, none⟩) (by simp) (.int .i64 n.kind)).setCell (p := ⟨w.heap.size + 1, 1, none⟩) (by simp) (.string n.data)).setCell (p := ⟨w.heap.size + 1, 2, none⟩) (by simp) (.slice A1 n.ptrs.length c1)).setCell (p := ⟨w.heap.size + 1, 3, none⟩) (by simp) (.int .i64 n.size)).setCell (p := ⟨w.heap.size + 1, 4, none⟩) (by simp) (.int .i64 n.count)).setCell (p := ⟨w.heap.size + 1, 5, none⟩) (by simp) (.slice A2 n.items.length c2)
  have huw := (((((((Upon.refl (w.heap.size + 3) w2).setCell (p := ⟨w.heap.size + 1 + 1, 5, none⟩) (by simp) (.slice A2 n.items.length c2)).setCell (p := ⟨w.heap.size + 1, 0, none⟩) (by simp) (.int .i64 n.kind)).setCell (p := ⟨w.heap.size + 1, 1, none⟩) (by simp) (.string n.data)).setCell (p := ⟨w.heap.size + 1, 2, none⟩) (by simp) (.slice A1 n.ptrs.length c1)).setCell (p := ⟨w.heap.size + 1, 3, none⟩) (by simp) (.int .i64 n.size)).setCell (p := ⟨w.heap.size + 1, 4, none⟩) (by simp) (.int .i64 n.count)).setCell (p := ⟨w.heap.size + 1, 5, none⟩) (by simp) (.slice A2 n.items.length c2)
  generalize (((((((w2.setCell ⟨w.heap.size + 1 + 1, 5, none⟩ (.slice A2 n.items.length c2)).setCell ⟨w.heap.size + 1, 0, none⟩ (.int .i64 n.kind)).setCell ⟨w.heap.size + 1, 1, none⟩ (.string n.data)).setCell ⟨w.heap.size + 1, 2, none⟩ (.slice A1 n.ptrs.length c1)).setCell ⟨w.heap.size + 1, 3, none⟩ (.int .i64 n.size)).setCell ⟨w.heap.size + 1, 4, none⟩ (.int .i64 n.count)).setCell ⟨w.heap.size + 1, 5, none⟩ (.slice A2 n.items.length c2)) = W at *
  obtain ⟨e0, e1, e2, e3, e4, e5⟩ := cells6 kw
  exact bodyPost_ret (v := .agg #[.int .i64 n.kind, .string n.data, .slice A1 n.ptrs.length c1, .int .i64 n.size, .int .i64 n.count, .slice A2 n.items.length c2])
    (by simp [results, Try.results9, go_sem, e0, e1, e2, e3, e4, e5]) rfl ⟨⟨A1, c1, A2, c2⟩, bs1 ++ bs2, rfl, ⟨HN.out.1, bs1, bs2, rfl, HN1.out.frame _ _ _ _ _ (fun b hb => by
      obtain ⟨g1, g2⟩ := HG1.out.2 b hb
      exact huw.block b g1 (by omega)), HN2.out.frame _ _ _ _ _ (fun b hb => by
      obtain ⟨g1, g2⟩ := HG2.out.2 b hb
      have := HS1.out
      have := HS3.out
      exact huw.block b (by omega) g2)⟩, List.nodup_append.2 ⟨HG1.out.1, HG2.out.1, fun a ha b hb e => by
      have g1 := (HG1.out.2 a ha).2
      have g2 := (HG2.out.2 b hb).1
      omega⟩, fun b hb => by
      rcases List.mem_append.1 hb with hb | hb
      · have := (HG1.out.2 b hb).1
        omega
      · have := (HG2.out.2 b hb).1
        have := HS1.out
        have := HS3.out
        omega, hbw⟩
theorem toSO_zero : ToSO 0 := by
  intro A c l w S hl ht
  obtain rfl := hl.zero
  obtain ⟨i0, hi, hz0, hz1, hz2⟩ := info_parts infoNd
  have hmk : ∀ w : World, (Instr.makeSlice nodesT (.int .i64 0) (.int .i64 0)).run Try.prog w = .ok (.slice (some ⟨w.heap.size, 0, none⟩) 0 0) (w.alloc (.cells (madeCells #[.int .i64 0, .string ByteArray.empty, .slice none 0 0, .int .i64 0, .int .i64 0, .slice none 0 0] 0) nodeT)) := fun w => by
    have := run_make (P := Try.prog) w nodesT nodeT i0 _ Try.underlying29 hi hz0 .i64 .i64 0 0 (by omega) (Int.le_refl _) (by rw [hz2]; omega) (by omega)
    rw [hz1] at this
    exact this
  clear ht
  go_enter Try.func27, Try.ntmps27
  go_wp2
  go_loopw [4] (fun i wr => i = .int .i64 0 ∧ Hid (Below w.heap.size w wr ∧ wr.heap[w.heap.size]? = some (.cells (madeCells #[.int .i64 0, .string ByteArray.empty, .slice none 0 0, .int .i64 0, .int .i64 0, .slice none 0 0] 0) nodeT (0, 0)))) (fun _ _ => 0)
  case atStart => exact ⟨rfl, Lib.hid ⟨(Below.refl _ _).alloc (Nat.le_refl _) _, heap_alloc_new w _⟩⟩
  case round =>
    obtain ⟨rfl, HB⟩ := hrel
    go_wp2
    go_ret
    exact ⟨some ⟨w.heap.size, 0, none⟩, 0, [w.heap.size], rfl, ⟨rfl, ⟨rfl, .inr ⟨w.heap.size, 0, _, rfl, Nat.zero_le _, HB.out.2, Nat.le_refl _, by decide, by rw [size_madeCells], rfl⟩⟩, rfl⟩, List.nodup_cons.2 ⟨by simp, List.nodup_nil⟩, fun b hb => by obtain rfl := List.mem_singleton.1 hb; exact Nat.le_refl _, HB.out.1⟩
set_option maxHeartbeats 4000000 in
set_option maxRecDepth 100000 in
theorem toSO_succ (m : Nat) (hN : ToNO m) : ToSO (m + 1) := by
  intro A c l w S hl ht
  have hlm : l.length ≤ 2000000 := Nat.le_trans (totL_len m l) ht
  obtain ⟨i0, hi, hz0, hz1, hz2⟩ := info_parts infoNd
  have hmk : ∀ w : World, (Instr.makeSlice nodesT (.int .i64 (l.length : Int)) (.int .i64 (l.length : Int))).run Try.prog w = .ok (.slice (some ⟨w.heap.size, 0, none⟩) l.length l.length) (w.alloc (.cells (madeCells #[.int .i64 0, .string ByteArray.empty, .slice none 0 0, .int .i64 0, .int .i64 0, .slice none 0 0] (l.length * 6)) nodeT)) := fun w => by
    have := run_make (P := Try.prog) w nodesT nodeT i0 _ Try.underlying29 hi hz0 .i64 .i64 (l.length : Int) (l.length : Int) (by omega) (Int.le_refl _) (by rw [hz2]; omega) (by omega)
    rw [hz1] at this
    simp only [Int.toNat_natCast] at this
    exact this
  have HF := Lib.hid hl
  have HN := Lib.hid hN
  have HT : Hid (∀ k (h : k < l.length), totN m l[k] ≤ 2000000) := Lib.hid fun k h => by have := totL_at (m := m) h; omega
  clear hl hN ht
  go_enter Try.func27, Try.ntmps27
  go_wp2
  have HROW := Lib.hid (heap_alloc_new w (.cells (madeCells #[.int .i64 0, .string ByteArray.empty, .slice none 0 0, .int .i64 0, .int .i64 0, .slice none 0 0] (l.length * 6)) nodeT))
  obtain ⟨x, hx⟩ : ∃ x : Addr, x = ⟨w.heap.size, 0, none⟩ := ⟨_, rfl⟩
  rw [← hx]
  have HX := Lib.hid hx
  clear hx hmk
  go_loopw [4] (fun i wr => ∃ k : Nat, i = .int .i64 k ∧ k ≤ l.length ∧ Hid (ToR l w.heap.size m k wr) ∧ Hid (Below w.heap.size w wr)) (fun i _ => l.length - (intOf i).toNat)
  case atStart => exact ⟨0, rfl, by omega, Lib.hid ⟨_, [], HROW.out, by rw [size_madeCells], rfl, fun j u h => by simp [rowB, rowOf] at h, fun r h => (by cases h), List.nodup_nil, fun b h => (by cases h)⟩, Lib.hid ((Below.refl _ _).alloc (Nat.le_refl _) _)⟩
  case round =>
    obtain ⟨k, rfl, hk, HA, HB⟩ := hrel
    by_cases hlt : k < l.length
    · obtain ⟨y, hd, rfl, hc, hn⟩ := (HF.out.below HB.out).at_ hlt
      obtain ⟨arr, q, hrow, hsz, hq, harr, hqn, hqd, hqb⟩ := HA.out
      have hql : q.length = k := by have := congrArg List.length hq; simp at this; omega
      have htk : l.take (k + 1) = l.take k ++ [l[k]] := List.take_succ_eq_append_getElem hlt
      have htn := HT.out k hlt
      generalize l[k] = n at hc hn htk htn
      obtain ⟨d0, d1, d2, d3, d4, d5⟩ := hc
      have hrlt := row_lt hrow
      have HP := Lib.hid (HN.out n hd wr S hn htn)
      have HROWK := Lib.hid hrow
      have HSZ := Lib.hid hsz
      have HQ := Lib.hid (And.intro hq (And.intro harr (And.intro hqn (And.intro hql htk))))
      have HQD := Lib.hid (And.intro hqd hqb)
      clear hq harr hqn hql htk hn htn hqd hqb
      go_wp2_with fail
      refine HP.out.mono ?_
      rintro e w2 ⟨h2, bs2, rfl, hn2, hnd2, hge2, hb2⟩
      have hrow2 := (hb2.block w.heap.size hrlt).trans HROWK.out
      obtain ⟨v0, hv0⟩ := some_at0 (i := k * 6) hsz (by omega)
      obtain ⟨v1, hv1⟩ := some_at0 (i := k * 6 + 1) hsz (by omega)
      obtain ⟨v2, hv2⟩ := some_at0 (i := k * 6 + 2) hsz (by omega)
      obtain ⟨v3, hv3⟩ := some_at0 (i := k * 6 + 3) hsz (by omega)
      obtain ⟨v4, hv4⟩ := some_at0 (i := k * 6 + 4) hsz (by omega)
      obtain ⟨v5, hv5⟩ := some_at0 (i := k * 6 + 5) hsz (by omega)
      have hadd : x.add (k * 6) = ⟨w.heap.size, k * 6, none⟩ := by rw [HX.out, add_zero0]
      have p0 : w2.cell? ⟨w.heap.size, k * 6, none⟩ = some v0 := by rw [cell_of_row _ _ _ _ _ _ hrow2]; exact hv0
      have p1 : w2.cell? ⟨w.heap.size, k * 6 + 1, none⟩ = some v1 := by rw [cell_of_row _ _ _ _ _ _ hrow2]; exact hv1
      have p2 : w2.cell? ⟨w.heap.size, k * 6 + 2, none⟩ = some v2 := by rw [cell_of_row _ _ _ _ _ _ hrow2]; exact hv2
      have p3 : w2.cell? ⟨w.heap.size, k * 6 + 3, none⟩ = some v3 := by rw [cell_of_row _ _ _ _ _ _ hrow2]; exact hv3
      have p4 : w2.cell? ⟨w.heap.size, k * 6 + 4, none⟩ = some v4 := by rw [cell_of_row _ _ _ _ _ _ hrow2]; exact hv4
      have p5 : w2.cell? ⟨w.heap.size, k * 6 + 5, none⟩ = some v5 := by rw [cell_of_row _ _ _ _ _ _ hrow2]; exact hv5
      have z0 := row_free hrow2
      have HR2 := Lib.hid hrow2
      have HB2 := Lib.hid (HB.out.trans (hb2.mono HB.out.size))
      have HN2 := Lib.hid hn2
      have HD2 := Lib.hid (And.intro hnd2 hge2)
      have HQ2 : Hid (∀ r ∈ q, OwN w2 m r.1 r.2.1 r.2.2) := Lib.hid fun r hr => (HQ.out.2.2.1 r hr).below hb2
      have HQL : Hid (∀ b ∈ blkB q, b < wr.heap.size) := Lib.hid fun b hb => by
        obtain ⟨r, hr, hbr⟩ := List.mem_flatMap.1 hb
        exact ((HQ.out.2.2.1 r hr).lt b hbr).1
      clear hnd2 hge2 hrow hsz hrow2 hb2 hv0 hv1 hv2 hv3 hv4 hv5 hn2
      go_wp2
      go_roundw
      case rel =>
        refine ⟨k + 1, by go_num, by omega, Lib.hid ⟨_, q ++ [(n, h2, bs2)], row_setN (row_setN (row_setN (row_setN (row_setN (row_setN HR2.out (k * 6) _) (k * 6 + 1) _) (k * 6 + 2) _) (k * 6 + 3) _) (k * 6 + 4) _) (k * 6 + 5) _, by simp [HSZ.out], ?_, ?_, ?_, ?_, ?_⟩, Lib.hid ?_⟩
        · rw [List.map_append, HQ.out.1, HQ.out.2.2.2.2]; rfl
        · have h0 : (q.map fun r : NB => (r.1, r.2.1)).length = k := by rw [List.length_map]; exact HQ.out.2.2.2.1
          have := arr_step (q := q.map fun r : NB => (r.1, r.2.1)) HQ.out.2.1 HSZ.out (by rw [h0]; omega) (n, h2)
          rw [h0] at this
          unfold rowB
          rw [List.map_append]
          exact this
        · have hu := (((((((Upon.refl (w.heap.size + 1) w2).setCell (p := ⟨w.heap.size, k * 6, none⟩) (by simp) (.int .i64 n.kind)).setCell (p := ⟨w.heap.size, k * 6 + 1, none⟩) (by simp) (.string n.data)).setCell (p := ⟨w.heap.size, k * 6 + 2, none⟩) (by simp) (.slice h2.A n.ptrs.length h2.a)).setCell (p := ⟨w.heap.size, k * 6 + 3, none⟩) (by simp) (.int .i64 n.size)).setCell (p := ⟨w.heap.size, k * 6 + 4, none⟩) (by simp) (.int .i64 n.count)).setCell (p := ⟨w.heap.size, k * 6 + 5, none⟩) (by simp) (.slice h2.B n.items.length h2.b))
          intro r hr
          rcases List.mem_append.1 hr with hr | hr
          · exact (HQ2.out r hr).frame (fun b hb => hu.block b (HQD.out.2 b (List.mem_flatMap.2 ⟨r, hr, hb⟩)) ((HQ2.out r hr).lt b hb).1)
          · obtain rfl := List.mem_singleton.1 hr
            exact HN2.out.frame (fun b hb => hu.block b (by have := HD2.out.2 b hb; omega) (HN2.out.lt b hb).1)
        · rw [blkB_snoc]
          exact List.nodup_append.2 ⟨HQD.out.1, HD2.out.1, fun a ha b hb e => by have := HQL.out a ha; have := HD2.out.2 b hb; omega⟩
        · intro b hb
          rw [blkB_snoc] at hb
          rcases List.mem_append.1 hb with hb | hb
          · exact HQD.out.2 b hb
          · have := HD2.out.2 b hb
            omega
        · exact (((((HB2.out.setCell (p := ⟨w.heap.size, k * 6, none⟩) (Nat.le_refl _) _).setCell (p := ⟨w.heap.size, k * 6 + 1, none⟩) (Nat.le_refl _) _).setCell (p := ⟨w.heap.size, k * 6 + 2, none⟩) (Nat.le_refl _) _).setCell (p := ⟨w.heap.size, k * 6 + 3, none⟩) (Nat.le_refl _) _).setCell (p := ⟨w.heap.size, k * 6 + 4, none⟩) (Nat.le_refl _) _).setCell (p := ⟨w.heap.size, k * 6 + 5, none⟩) (Nat.le_refl _) _
      case measure => simp [intOf]; omega
    · obtain rfl : k = l.length := by omega
      have HRES := Lib.hid (HA.out.done (by unfold maxLen; omega))
      have HX2 := HX
      clear HA
      go_wp2
      go_ret
      rw [HX2.out]
      obtain ⟨bs, o1, o2, o3⟩ := HRES.out
      exact ⟨_, _, bs, rfl, o1, o2, o3, HB.out⟩
theorem toSO_any : ∀ m, ToSO m
  | 0 => toSO_zero
  | m + 1 => toSO_succ m (toNO_of m (toSO_any m))
theorem toNO_any (m : Nat) : ToNO m := toNO_of m (toSO_any m)
end Go.Proofs.Ytbhmklbdfmgmlaa

/- Nodes that are nothing, behind a row of one's own. -/
namespace Go.Proofs.Ytbhmklbdfmgmlaa
open Go.RowKit
abbrev nHd : Hd := ⟨none, 0, none, 0⟩
abbrev zNd : Value := .agg #[.int .i64 0, .string ByteArray.empty, .slice none 0 0, .int .i64 0, .int .i64 0, .slice none 0 0]
theorem zero_cells (k : Nat) : (Builtin.zeroCells zNd.cells k).toList = rowOf (List.replicate k (noneNd, nHd)) := by
  have hz : zNd.cells = #[.int .i64 0, .string ByteArray.empty, .slice none 0 0, .int .i64 0, .int .i64 0, .slice none 0 0] := rfl
  rw [hz]
  apply List.ext_getElem?
  intro j
  rw [rowOf_get, Array.getElem?_toList]
  unfold Builtin.zeroCells
  rw [Array.getElem?_map]
  by_cases hj : j < k * 6
  · rw [Array.getElem?_range, if_pos (by simpa using hj), List.getElem?_replicate, if_pos (by omega)]
    simp only [Option.map_some]
    have hm : j % 6 = 0 ∨ j % 6 = 1 ∨ j % 6 = 2 ∨ j % 6 = 3 ∨ j % 6 = 4 ∨ j % 6 = 5 := by omega
    show some (#[Value.int .i64 0, .string ByteArray.empty, .slice none 0 0, .int .i64 0, .int .i64 0, .slice none 0 0][j % 6]!) = _
    rcases hm with e | e | e | e | e | e <;> rw [e] <;> rfl
  · rw [Array.getElem?_range, if_neg (by simpa using hj), List.getElem?_replicate, if_neg (by omega)]
    rfl
theorem run_append_zeros (ty : TypeId) (w : World) (v : Value) (n : Nat) (xs : List Value) (hown : w.ownsRow 0 nodeT 6 v n xs) (k : Nat) (hb : n + k ≤ 3000000) :
    ∃ v' w', (Builtin.append_ #[nodesT, 3] ty #[v, .int .i64 (k : Int)]).run Try.prog w = .ok v' w' ∧ w'.ownsRow 0 nodeT 6 v' (n + k) (xs ++ rowOf (List.replicate k (noneNd, nHd))) ∧ w.grownBy w' v.ownBlock ∧ (v'.ownBlock = v.ownBlock ∨ v'.ownBlock = some w.heap.size) := by
  obtain ⟨i0, hi, hz0, hz1, hz2⟩ := info_parts infoNd
  have hu : Try.prog.underlying nodesT = some (.slice nodeT) := Try.underlying29
  have hti : Try.prog.underlying 3 = some (.int .i64) := Try.underlying3
  have hrl : (rowOf (List.replicate k (noneNd, nHd))).length = k * 6 := by rw [rowOf_length, List.length_replicate]
  have hlen : (xs ++ rowOf (List.replicate k (noneNd, nHd))).length = (n + k) * 6 := by rw [List.length_append, hown.1, hrl, Nat.add_mul]
  have hzs : (Builtin.zeroCells zNd.cells k).size = k * 6 := by rw [size_zeroCells]; rfl
  have grown : ∀ (old : Nat), old < n + k → ∀ (row : Option Nat),
      (w.drew.alloc (.cells (xs.toArray ++ Builtin.zeroCells zNd.cells k ++ Builtin.zeroCells zNd.cells (grownCap w (n + k) old nodeT - (n + k))) nodeT)).ownsRow 0 nodeT 6
        (.slice (some ⟨w.heap.size, 0, none⟩) (n + k) (grownCap w (n + k) old nodeT)) (n + k) (xs ++ rowOf (List.replicate k (noneNd, nHd))) ∧
      w.grownBy (w.drew.alloc (.cells (xs.toArray ++ Builtin.zeroCells zNd.cells k ++ Builtin.zeroCells zNd.cells (grownCap w (n + k) old nodeT - (n + k))) nodeT)) row := by
    intro old ho row
    have hge := grownCap_ge w (n + k) old nodeT
    have hcm : grownCap w (n + k) old nodeT ≤ maxLen := grownCap_le_maxLen w (n + k) old nodeT (by unfold maxLen; omega)
    refine ⟨⟨hlen, .inr ⟨w.heap.size, _, _, rfl, Nat.zero_le _, heap_alloc_new w.drew _, hge, hcm, ?_, ?_⟩⟩, ⟨rfl, rfl, rfl, by simp, fun j hj _ => Below.heap_alloc w.drew _ j hj⟩⟩
    · have h1 : (Builtin.zeroCells zNd.cells (grownCap w (n + k) old nodeT - (n + k))).size = (grownCap w (n + k) old nodeT - (n + k)) * 6 := by rw [size_zeroCells]; rfl
      have h2 := hown.1
      simp only [Array.size_append, List.size_toArray, hzs, h1]
      omega
    · simp only [Array.toList_append, List.append_assoc, zero_cells]
      rw [← List.append_assoc, ← hlen]
      exact List.take_left
  rcases hown.2 with ⟨rfl, rfl⟩ | ⟨g, cap, cur, rfl, hbg, hg, hnc, hcm, hcs, htake⟩
  · have hx : xs = [] := List.eq_nil_of_length_eq_zero (by simpa using hown.1)
    subst hx
    by_cases hm : k = 0
    · subst hm
      refine ⟨.slice none 0 0, w, ?_, World.ownsRow_nil w 0 nodeT 6, ⟨rfl, rfl, rfl, Nat.le_refl _, fun _ _ _ => rfl⟩, .inl rfl⟩
      simp [Builtin.append_, run_underlying hu, run_underlying hti, sizeOf, typeInfo, hi, asInt, asIntOf, IntKind.wrap_i64]
    · have hr := Lib.run_append_nil_zeros (P := Try.prog) w nodesT 3 ty nodeT i0 _ .i64 .i64 hu hti hi hz0 k (by omega) (by rw [hz1]; decide) (by omega) (by rw [hz2]; omega)
      have hgr := grown 0 (by omega) (Value.ownBlock (.slice none 0 0))
      simp only [Nat.zero_add, List.nil_append, Array.empty_append] at hgr ⊢
      exact ⟨_, _, hr, hgr.1, hgr.2, Or.inr rfl⟩
  · by_cases hroom : n + k ≤ cap
    · have hst := run_storeCells_at Try.prog g (n * 6) nodeT (rowOf (List.replicate k (noneNd, nHd))) 0 cur w hg (by rw [hrl, hcs]; omega) (rowOf_one _)
      simp only [Nat.add_zero] at hst
      have hr : (Builtin.append_ #[nodesT, 3] ty #[.slice (some ⟨g, 0, none⟩) n cap, .int .i64 (k : Int)]).run Try.prog w = .ok (.slice (some ⟨g, 0, none⟩) (n + k) cap) (w.setRow g (cur.toList.take (n * 6) ++ rowOf (List.replicate k (noneNd, nHd)) ++ cur.toList.drop (n * 6 + (rowOf (List.replicate k (noneNd, nHd))).length)).toArray) := by
        have hw : IntKind.i64.wrap (k : Int) = k := by rw [IntKind.wrap_i64]; omega
        have hneg : ¬ ((k : Int) < 0) := by omega
        have h48i : ¬ (281474976710656 < (k : Int) * 88) := by omega
        by_cases hk0 : k = 0
        · subst hk0
          have hst0 := hst
          simp [rowOf, storeCells] at hst0
          simp [Builtin.append_, run_underlying hu, run_underlying hti, sizeOf, typeInfo, hi, hz2, asInt, asIntOf, hnc, IntKind.wrap_i64, storeCells, rowOf]
          exact hst0
        · have hns : ¬ (k * 6 = 0) := by omega
          simp [Builtin.append_, run_underlying hu, run_underlying hti, sizeOf, typeInfo, zeroValue, hi, hz0, hz1, hz2, asInt, asIntOf, hw, hneg, h48i, hns, hroom, Addr.add_lit, zero_cells, hst]
      refine ⟨_, _, hr, ⟨hlen, .inr ⟨g, cap, _, rfl, hbg, setRow_heap w g cur _ nodeT _ hg, hroom, hcm, ?_, ?_⟩⟩, ⟨rfl, rfl, rfl, by simp, fun k _ hk => setRow_other w g k _ (fun e => hk (by simp [Value.ownBlock, e]))⟩, Or.inl rfl⟩
      · simp only [List.size_toArray, List.length_append, List.length_take, List.length_drop, Array.length_toList]
        omega
      · rw [htake, ← hlen]
        exact List.take_left
    · have holds : ∀ j u, xs[j]? = some u → w.cell? ((⟨g, 0, none⟩ : Addr).add j) = some u := hown.cells (g := g) rfl
      have hold : (Builtin.firstCells i0.size n (.slice (some ⟨g, 0, none⟩) n cap)).run Try.prog w.drew = .ok xs.toArray w.drew := by
        rw [hz1]
        exact run_firstCells_some (P := Try.prog) w.drew 6 n ⟨g, 0, none⟩ n cap xs hown.1 (by simpa using holds)
      have hr := Lib.run_append_grow_zeros (P := Try.prog) w nodesT 3 ty nodeT i0 _ .i64 .i64 hu hti hi hz0 (some ⟨g, 0, none⟩) n cap xs hold k (by omega) (by rw [hz1]; decide) (by omega) (by omega) (by rw [hz2]; omega) (by rw [hz2]; exact growslice_fits (by omega) (by omega))
      have hgr := grown cap (by omega) (Value.ownBlock (.slice (some ⟨g, 0, none⟩) n cap))
      exact ⟨_, _, hr, hgr.1, hgr.2, Or.inr rfl⟩
end Go.Proofs.Ytbhmklbdfmgmlaa

/- The program's one form: each of several nodes. -/
namespace Go.Proofs.Ytbhmklbdfmgmlaa
open Go.RowKit Go.Deep
theorem wpList_append_ndB {ops : Array Oper} {rest : List Oper} {o : Oper} {a : Act} {w : World} {Q : Exit → Act → World → Prop} (hgd : o.guard = none) (s x : Operand)
    (ho : o.op = .call { callee := .builtin .append, args := #[s, x], argTypes := #[nodesT, nodesT] })
    (base : Nat) (v : Value) (n : Nat) (xs : List Value) (hs : a.eval s = v) (hown : w.ownsRow base nodeT 6 v n xs)
    (ad : Addr) (c : Nat) (r : Nd × Hd) (hx : a.eval x = .slice (some ad) 1 c) (hnews : ∀ j u, (rowOf [r])[j]? = some u → w.cell? (ad.add j) = some u) (hn : n ≤ 3000000) (hbase : base ≤ w.heap.size)
    (h : ∀ A' c' w', Hid (w'.ownsRow base nodeT 6 (.slice A' (n + 1) c') (n + 1) (xs ++ rowOf [r])) → Hid (w.grownBy w' v.ownBlock) → Hid ((Value.slice A' (n + 1) c').ownBlock = v.ownBlock ∨ (Value.slice A' (n + 1) c').ownBlock = some w.heap.size) → wpList Try.prog ops Q rest (a.put o.dst (.slice A' (n + 1) c')) w') :
    wpList Try.prog ops Q (o :: rest) a w :=
  wpList_plain hgd fun K hK => by
    obtain ⟨i0, hi, hz0, hz1, hz2⟩ := info_parts infoNd
    obtain ⟨v', w', hr, h2, h3, _, h5⟩ := run_append_own_at (P := Try.prog) w base nodesT o.type nodeT i0 _ 6 88 Try.underlying29 hi hz0 hz1 hz2 rfl (by decide) v n xs hown ad 1 c (rowOf [r]) rfl hnews (rowOf_one _) (by unfold maxLen; omega) (by omega) hbase
    obtain ⟨A', c', rfl⟩ := own_sliceN h2
    unfold Oper.wp execOp
    simp only [ho, resolve, invoke, builtin, Sem.run_bind, Sem.run_pure, Result.andThen_ok, List.map_toArray, List.map_cons, List.map_nil, hs, hx, hr]
    exact hK _ _ (h A' c' w' h2 h3 h5)
theorem sizL_len : ∀ l : List Nd, l.length ≤ sizL l
  | [] => by simp
  | n :: t => by rw [sizL, List.length_cons]; have := sizL_len t; omega
theorem sizL_at {l : List Nd} {k : Nat} (h : k < l.length) : sizN l[k] ≤ sizL l := by
  have h1 : sizL (l.take (k + 1)) ≤ sizL l := sizL_take l _
  rw [List.take_succ_eq_append_getElem h, sizL_app, sizL, sizL_nil] at h1
  omega
end Go.Proofs.Ytbhmklbdfmgmlaa

/- impl.wordsOf: what it yields: the words of a text, one by one, for every loop body that leaves the text's box as it was. -/
namespace Go.Proofs.Ytbhmklbdfmgmlaa
open Go.RowKit Go.Shelf
attribute [local go_sem] Oper.semAt_some
/-- a word. -/
abbrev W8 := { l : List UInt8 // l.length = 8 }
def wordQ (l : List UInt8) (i : Nat) : W8 := ⟨(l.drop (8 * i) ++ [0, 0, 0, 0, 0, 0, 0, 0]).take 8, by simp⟩
theorem wordQ_in (l : List UInt8) (i : Nat) (h : 8 * i + 8 ≤ l.length) : (wordQ l i).1 = (l.drop (8 * i)).take 8 := by
  show List.take 8 (l.drop (8 * i) ++ [0, 0, 0, 0, 0, 0, 0, 0]) = _
  rw [List.take_append_of_le_length (by simp; omega)]
/-- the words of a text. -/
def wordsQ (l : List UInt8) : List W8 := (List.range (l.length / 8)).map (wordQ l)
theorem wordsQ_length (l : List UInt8) : (wordsQ l).length = l.length / 8 := by simp [wordsQ]
theorem upto_snoc (l : List UInt8) (k : Nat) : (List.range (k + 1)).map (wordQ l) = (List.range k).map (wordQ l) ++ [wordQ l k] := by rw [List.range_succ, List.map_append]; rfl
theorem upto_pre (l : List UInt8) (k : Nat) (h : k ≤ l.length / 8) : (List.range k).map (wordQ l) <+: wordsQ l := by
  obtain ⟨j, hj⟩ : ∃ j, l.length / 8 = k + j := ⟨l.length / 8 - k, by omega⟩
  rw [wordsQ, hj, List.range_add, List.map_append]
  exact List.prefix_append _ _
/-- what a round must keep: the text's box. -/
def KeepBox (Bn : Nat) (A B : World) : Prop := B.heap[Bn]? = A.heap[Bn]?
theorem grown_of_below {w w' : World} (h : Below w.heap.size w w') : w.grownBy w' none := ⟨h.os, h.tape, h.output, h.size, fun k hk _ => h.block k hk⟩

end Go.Proofs.Ytbhmklbdfmgmlaa

/- the specification's l1Trim. -/
namespace Go.Proofs.Ytbhmklbdfmgmlaa
open Go.RowKit
def zerS (u : ByteArray) : Bool := zerB u.data.toList
def sizeV : Value → Nat
  | .string u => u.size
  | _ => 0
theorem ret_str {a b : ByteArray} (h : a.data.toList = b.data.toList) : Ending.returned (.string a) = .returned (.string b) := by
  obtain ⟨⟨x⟩⟩ := a
  obtain ⟨⟨y⟩⟩ := b
  simp only at h
  rw [h]
end Go.Proofs.Ytbhmklbdfmgmlaa

/- the specification's l1Ok, l1Size, l1Get and Get: what they answer. -/
namespace Go.Proofs.Ytbhmklbdfmgmlaa
open Go.RowKit

end Go.Proofs.Ytbhmklbdfmgmlaa

/- what Get answers. -/
namespace Go.Proofs.Ytbhmklbdfmgmlaa
open Go.RowKit
/-- what Get answers. -/
def getI (l : List UInt8) (at_ size : Int) : Int := if wordsB l.length = true ∧ placeB at_ size = true then wrap64 (leN l at_.toNat size.toNat : Nat) else 0
end Go.Proofs.Ytbhmklbdfmgmlaa

/- the specification's l1Ok, l1Size, l1Get and Get: what they answer. -/
namespace Go.Proofs.Ytbhmklbdfmgmlaa
open Go.RowKit

theorem placeB_eq (at_ size : Int) : placeB at_ size = (sizeB size && (inB at_ 0 1600 && decide (at_ % size = 0))) := by
  rw [Bool.eq_iff_iff]; simp [placeB, sizeB, inB, and_assoc, and_comm, and_left_comm]

end Go.Proofs.Ytbhmklbdfmgmlaa

/- the specification's Trim. -/
namespace Go.Proofs.Ytbhmklbdfmgmlaa
open Go.RowKit
/-- what Trim answers. -/
def trimB (l : List UInt8) : List UInt8 := if wordsB l.length = true then l.take (8 * trimN l (l.length / 8)) else []
end Go.Proofs.Ytbhmklbdfmgmlaa
