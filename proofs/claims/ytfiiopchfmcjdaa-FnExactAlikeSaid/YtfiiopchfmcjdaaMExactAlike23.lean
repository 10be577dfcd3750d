/- Texts of the proof of the law FnExactAlike, side by side: part 23. -/
import Derived.Deep.RegionHeld3
import Derived.Lib.QuietBelow
import Derived.Test.YtfiiopchfmcjdaaMExactAlike00
import Derived.Test.YtfiiopchfmcjdaaMExactAlike01
import Derived.Test.YtfiiopchfmcjdaaMExactAlike02
import Derived.Test.YtfiiopchfmcjdaaMExactAlike03
import Derived.Test.YtfiiopchfmcjdaaMExactAlike04
import Derived.Test.YtfiiopchfmcjdaaMExactAlike05
import Derived.Test.YtfiiopchfmcjdaaMExactAlike06
import Derived.Test.YtfiiopchfmcjdaaMExactAlike07
import Derived.Test.YtfiiopchfmcjdaaMExactAlike08
import Derived.Test.YtfiiopchfmcjdaaMExactAlike09
import Derived.Test.YtfiiopchfmcjdaaMExactAlike10
import Derived.Test.YtfiiopchfmcjdaaMExactAlike11
import Derived.Test.YtfiiopchfmcjdaaMExactAlike12
import Derived.Test.YtfiiopchfmcjdaaMExactAlike13
import Derived.Test.YtfiiopchfmcjdaaMExactAlike14
import Derived.Test.YtfiiopchfmcjdaaMExactAlike15
import Derived.Test.YtfiiopchfmcjdaaMExactAlike16
import Derived.Test.YtfiiopchfmcjdaaMExactAlike17
import Derived.Test.YtfiiopchfmcjdaaMExactAlike18
import Derived.Test.YtfiiopchfmcjdaaMExactAlike19
import Derived.Test.YtfiiopchfmcjdaaMExactAlike20
import Derived.Test.YtfiiopchfmcjdaaMExactAlike21
import Derived.Test.YtfiiopchfmcjdaaMExactAlike22
/- The specification's l4Same: whether two nodes are the same. -/
namespace Go.Proofs.Ytfiiopchfmcjdaa
open Go.RowKit
def LsN (m : Nat) : Prop := ∀ (m' : Nat) (n n' : Nd) (h h' : Hd) (w : World) (S S' : Nat → Prop) (b : Bool), NdAt w S m n h → NdAt w S' m' n' h' → (b = true ↔ n = n') →
  Calls Try.prog 37 #[.agg #[.int .i64 n.kind, .string n.data, .slice h.A n.ptrs.length h.a, .int .i64 n.size, .int .i64 n.count, .slice h.B n.items.length h.b], .agg #[.int .i64 n'.kind, .string n'.data, .slice h'.A n'.ptrs.length h'.a, .int .i64 n'.size, .int .i64 n'.count, .slice h'.B n'.items.length h'.b]] w fun e w' => e = .returned (.bool b) ∧ Below w.heap.size w w'
set_option maxHeartbeats 8000000 in
set_option maxRecDepth 100000 in
theorem lsN_of (m : Nat) (hS : ∀ j, m = j + 1 → LsN j) : LsN m := by
  intro m' n n' h h' w S S' b hn hn' hb
  have HS := Lib.hid hS
  have hba : Below w.heap.size w ((w.alloc (.cells #[.int .i64 n.kind, .string n.data, .slice h.A n.ptrs.length h.a, .int .i64 n.size, .int .i64 n.count, .slice h.B n.items.length h.b] nodeT)).alloc (.cells #[.int .i64 n'.kind, .string n'.data, .slice h'.A n'.ptrs.length h'.a, .int .i64 n'.size, .int .i64 n'.count, .slice h'.B n'.items.length h'.b] nodeT)) := ((Below.refl _ _).alloc (Nat.le_refl _) _).alloc (by simp) _
  have k1 : ((w.alloc (.cells #[.int .i64 n.kind, .string n.data, .slice h.A n.ptrs.length h.a, .int .i64 n.size, .int .i64 n.count, .slice h.B n.items.length h.b] nodeT)).alloc (.cells #[.int .i64 n'.kind, .string n'.data, .slice h'.A n'.ptrs.length h'.a, .int .i64 n'.size, .int .i64 n'.count, .slice h'.B n'.items.length h'.b] nodeT)).heap[w.heap.size]? = some (.cells #[.int .i64 n.kind, .string n.data, .slice h.A n.ptrs.length h.a, .int .i64 n.size, .int .i64 n.count, .slice h.B n.items.length h.b] nodeT (0, 0)) := (Below.heap_alloc _ _ _ (by simp)).trans (heap_alloc_new w _)
  have k2 : ((w.alloc (.cells #[.int .i64 n.kind, .string n.data, .slice h.A n.ptrs.length h.a, .int .i64 n.size, .int .i64 n.count, .slice h.B n.items.length h.b] nodeT)).alloc (.cells #[.int .i64 n'.kind, .string n'.data, .slice h'.A n'.ptrs.length h'.a, .int .i64 n'.size, .int .i64 n'.count, .slice h'.B n'.items.length h'.b] nodeT)).heap[w.heap.size + 1]? = some (.cells #[.int .i64 n'.kind, .string n'.data, .slice h'.A n'.ptrs.length h'.a, .int .i64 n'.size, .int .i64 n'.count, .slice h'.B n'.items.length h'.b] nodeT (0, 0)) := by have := heap_alloc_new (w.alloc (.cells #[.int .i64 n.kind, .string n.data, .slice h.A n.ptrs.length h.a, .int .i64 n.size, .int .i64 n.count, .slice h.B n.items.length h.b] nodeT)) (.cells #[.int .i64 n'.kind, .string n'.data, .slice h'.A n'.ptrs.length h'.a, .int .i64 n'.size, .int .i64 n'.count, .slice h'.B n'.items.length h'.b] nodeT); rwa [show (w.alloc (.cells #[.int .i64 n.kind, .string n.data, .slice h.A n.ptrs.length h.a, .int .i64 n.size, .int .i64 n.count, .slice h.B n.items.length h.b] nodeT)).heap.size = w.heap.size + 1 by simp] at this
  have HN := Lib.hid (hn.below hba)
  have HN' := Lib.hid (hn'.below hba)
  have hts : ((w.alloc (.cells #[.int .i64 n.kind, .string n.data, .slice h.A n.ptrs.length h.a, .int .i64 n.size, .int .i64 n.count, .slice h.B n.items.length h.b] nodeT)).alloc (.cells #[.int .i64 n'.kind, .string n'.data, .slice h'.A n'.ptrs.length h'.a, .int .i64 n'.size, .int .i64 n'.count, .slice h'.B n'.items.length h'.b] nodeT)).heap.size = w.heap.size + 2 := by simp
  have HBA := Lib.hid hba
  have HK1 := Lib.hid k1
  have HK2 := Lib.hid k2
  have HTS := Lib.hid hts
  have HQ := Lib.hid (hb.trans (nd_eq n n'))
  have hl1 := hn.2.1.len
  have hl2 := hn.2.2.len
  have hl3 := hn'.2.1.len
  have hl4 := hn'.2.2.len
  unfold maxLen at hl1 hl2 hl3 hl4
  clear hS hn hn' hba k1 k2 hts hb
  by_cases hx : n.kind = n'.kind
  case neg =>
    have hxb : (n.kind != n'.kind) = true := by simpa using hx
    obtain rfl : b = false := bool_no HQ.out (fun e => hx e.1)
    clear hx
    go_enter Try.func37, Try.ntmps37
    go_wp2
    go_ret
    exact ⟨rfl, HBA.out⟩
  have t0 : (n.kind != n'.kind) = false := by simpa using hx
  have H0 := Lib.hid hx
  clear hx
  clear t0
  simp only [← H0.out] at HBA HK1 HK2 HTS HN HN' ⊢
  by_cases hx : n.data = n'.data
  case neg =>
    have hxb : (!(n.data.toList == n'.data.toList)) = true := by rw [toList_eq, decide_eq_false hx]; rfl
    obtain rfl : b = false := bool_no HQ.out (fun e => hx e.2.1)
    have hxc : (n.data.toList == n'.data.toList) = false := by rw [toList_eq]; exact decide_eq_false hx
    clear hx hxb
    go_enter Try.func37, Try.ntmps37
    go_wp2
    go_ret
    exact ⟨rfl, HBA.out⟩
  have t1 : (!(n.data.toList == n'.data.toList)) = false := by rw [toList_eq, decide_eq_true hx]; rfl
  have H1 := Lib.hid hx
  have t1b : (n.data.toList == n'.data.toList) = true := by rw [toList_eq]; exact decide_eq_true hx
  clear hx t1
  by_cases hx : n.size = n'.size
  case neg =>
    have hxb : (n.size != n'.size) = true := by simpa using hx
    obtain rfl : b = false := bool_no HQ.out (fun e => hx e.2.2.1)
    clear hx
    go_enter Try.func37, Try.ntmps37
    go_wp2
    go_ret
    exact ⟨rfl, HBA.out⟩
  have t2 : (n.size != n'.size) = false := by simpa using hx
  have H2 := Lib.hid hx
  clear hx
  clear t2
  simp only [← H2.out] at HBA HK1 HK2 HTS HN HN' ⊢
  by_cases hx : n.count = n'.count
  case neg =>
    have hxb : (n.count != n'.count) = true := by simpa using hx
    obtain rfl : b = false := bool_no HQ.out (fun e => hx e.2.2.2.1)
    clear hx
    go_enter Try.func37, Try.ntmps37
    go_wp2
    go_ret
    exact ⟨rfl, HBA.out⟩
  have t3 : (n.count != n'.count) = false := by simpa using hx
  have H3 := Lib.hid hx
  clear hx
  clear t3
  simp only [← H3.out] at HBA HK1 HK2 HTS HN HN' ⊢
  by_cases hx : n.ptrs.length = n'.ptrs.length
  case neg =>
    have hxb : ((n.ptrs.length : Int) != (n'.ptrs.length : Int)) = true := by simp; omega
    obtain rfl : b = false := bool_no HQ.out (fun e => hx (by rw [e.2.2.2.2.1]))
    clear hx
    go_enter Try.func37, Try.ntmps37
    go_wp2
    go_ret
    exact ⟨rfl, HBA.out⟩
  have t4 : ((n.ptrs.length : Int) != (n'.ptrs.length : Int)) = false := by simp; omega
  have H4 := Lib.hid hx
  clear hx
  by_cases hx : n.items.length = n'.items.length
  case neg =>
    have hxb : ((n.items.length : Int) != (n'.items.length : Int)) = true := by simp; omega
    obtain rfl : b = false := bool_no HQ.out (fun e => hx (by rw [e.2.2.2.2.2]))
    clear hx
    go_enter Try.func37, Try.ntmps37
    go_wp2
    go_ret
    exact ⟨rfl, HBA.out⟩
  have t5 : ((n.items.length : Int) != (n'.items.length : Int)) = false := by simp; omega
  have H5 := Lib.hid hx
  clear hx
  go_enter Try.func37, Try.ntmps37
  go_wp2_with fail
  generalize ((w.alloc (.cells #[.int .i64 n.kind, .string n.data, .slice h.A n.ptrs.length h.a, .int .i64 n.size, .int .i64 n.count, .slice h.B n.items.length h.b] nodeT)).alloc (.cells #[.int .i64 n.kind, .string n'.data, .slice h'.A n'.ptrs.length h'.a, .int .i64 n.size, .int .i64 n.count, .slice h'.B n'.items.length h'.b] nodeT)) = W at *
  go_loopw [5] (fun i wr => ∃ k : Nat, i = .int .i64 k ∧ k ≤ n.ptrs.length ∧ Hid (Below W.heap.size W wr) ∧ Hid (∀ j, j < k → n.ptrs[j]? = n'.ptrs[j]?)) (fun i _ => n.ptrs.length - (intOf i).toNat)
  case atStart => exact ⟨0, rfl, by omega, Lib.hid (Below.refl _ _), Lib.hid (fun j hj => by omega)⟩
  case round =>
    skip
    obtain ⟨k, rfl, hk, HB, HE⟩ := hrel
    obtain ⟨a0, a1, a2, a3, a4, a5⟩ := cells6 ((HB.out.block _ (by have := HTS.out; omega)).trans HK1.out)
    obtain ⟨b0, b1, b2, b3, b4, b5⟩ := cells6 ((HB.out.block _ (by have := HTS.out; omega)).trans HK2.out)
    rw [← H4.out] at b2
    by_cases hlt : k < n.ptrs.length
    · have hlt' : k < n'.ptrs.length := by have := H4.out; omega
      obtain ⟨jm, hjm⟩ := HN.out.2.1.pred hlt
      subst hjm
      obtain ⟨jm', hjm'⟩ := HN'.out.2.1.pred hlt'
      subst hjm'
      obtain ⟨x, hx, hA, cx, nx⟩ := (HN.out.below HB.out).2.1.at_ hlt
      obtain ⟨y, hy, hA', cy, ny⟩ := (HN'.out.below HB.out).2.1.at_ hlt'
      rw [hA] at a2
      rw [hA'] at b2
      have HEQ : Hid (n.ptrs[k] = n'.ptrs[k] → n.ptrs[k]? = n'.ptrs[k]?) := Lib.hid (fun e => by rw [List.getElem?_eq_getElem hlt, List.getElem?_eq_getElem hlt', e])
      have HNE : Hid (n.ptrs[k] ≠ n'.ptrs[k] → n.ptrs ≠ n'.ptrs) := Lib.hid (fun e hl => e (List.getElem_of_eq hl hlt))
      generalize n.ptrs[k] = p at cx nx HEQ HNE
      generalize n'.ptrs[k] = p' at cy ny HEQ HNE
      have hd1 : Below wr.heap.size wr wr.drew := ⟨rfl, rfl, rfl, Nat.le_refl _, fun _ _ => rfl⟩
      obtain ⟨c0, c1, c2, c3, c4, c5⟩ := cx
      obtain ⟨d0, d1, d2, d3, d4, d5⟩ := cy
      have hk2 : (k : Int) < (n.ptrs.length : Int) := by omega
      have hs := HB.out.size
      clear hA hA' hlt'
      by_cases hnn : p = p'
      · have HP := Lib.hid (HS.out jm rfl jm' p p' hx hy wr.drew S S' true (nx.below hd1) (ny.below hd1) (iff_true_of hnn))
        have HE1 := Lib.hid (HEQ.out hnn)
        clear nx ny hnn HEQ HNE
        go_wp2
        go_region_with (go_at_call 37; refine HP.out.mono ?_; rintro e w2 ⟨rfl, hb2⟩)
        all_goals
          have HB2 := Lib.hid (HB.out.trans ((show Below W.heap.size wr wr.drew from ⟨rfl, rfl, rfl, Nat.le_refl _, fun _ _ => rfl⟩).trans (hb2.mono (by simpa using hs))))
          clear hb2
          go_wp2
          go_roundw
          case rel =>
            refine ⟨k + 1, by go_num, by omega, HB2, Lib.hid fun j hj => ?_⟩
            rcases Nat.lt_or_ge j k with hl | hge
            · exact HE.out j hl
            · obtain rfl : j = k := by omega
              exact HE1.out
          case measure => simp [intOf]; omega
      · have HP := Lib.hid (HS.out jm rfl jm' p p' hx hy wr.drew S S' false (nx.below hd1) (ny.below hd1) (iff_false_of hnn))
        obtain rfl : b = false := bool_no HQ.out (fun e => HNE.out hnn e.2.2.2.2.1)
        clear nx ny hnn HEQ HNE
        go_wp2
        go_region_with (go_at_call 37; refine HP.out.mono ?_; rintro e w2 ⟨rfl, hb2⟩)
        all_goals
          have HB2 := Lib.hid (HBA.out.trans ((HB.out.trans ((show Below W.heap.size wr wr.drew from ⟨rfl, rfl, rfl, Nat.le_refl _, fun _ _ => rfl⟩).trans (hb2.mono (by simpa using hs)))).mono HBA.out.size))
          clear hb2
          go_wp2
          go_ret
          exact ⟨rfl, HB2.out⟩
    · obtain rfl : k = n.ptrs.length := by omega
      have HPP : Hid (n.ptrs = n'.ptrs) := Lib.hid (List.ext_getElem? fun j => by
        rcases Nat.lt_or_ge j n.ptrs.length with hl | hge
        · exact HE.out j hl
        · rw [List.getElem?_eq_none hge, List.getElem?_eq_none (by have := H4.out; omega)])
      clear HE
      go_wp2_with fail
      go_loopw [6] (fun i wr => ∃ k : Nat, i = .int .i64 k ∧ k ≤ n.items.length ∧ Hid (Below W.heap.size W wr) ∧ Hid (∀ j, j < k → n.items[j]? = n'.items[j]?)) (fun i _ => n.items.length - (intOf i).toNat)
      case atStart => exact ⟨0, rfl, by omega, HB, Lib.hid (fun j hj => by omega)⟩
      case round =>
        clear a0 a1 a2 a3 a4 a5 b0 b1 b2 b3 b4 b5
        obtain ⟨k, rfl, hk, HB, HE⟩ := hrel
        obtain ⟨a0, a1, a2, a3, a4, a5⟩ := cells6 ((HB.out.block _ (by have := HTS.out; omega)).trans HK1.out)
        obtain ⟨b0, b1, b2, b3, b4, b5⟩ := cells6 ((HB.out.block _ (by have := HTS.out; omega)).trans HK2.out)
        rw [← H5.out] at b5
        by_cases hlt : k < n.items.length
        · have hlt' : k < n'.items.length := by have := H5.out; omega
          obtain ⟨jm, hjm⟩ := HN.out.2.2.pred hlt
          subst hjm
          obtain ⟨jm', hjm'⟩ := HN'.out.2.2.pred hlt'
          subst hjm'
          obtain ⟨x, hx, hA, cx, nx⟩ := (HN.out.below HB.out).2.2.at_ hlt
          obtain ⟨y, hy, hA', cy, ny⟩ := (HN'.out.below HB.out).2.2.at_ hlt'
          rw [hA] at a5
          rw [hA'] at b5
          have HEQ : Hid (n.items[k] = n'.items[k] → n.items[k]? = n'.items[k]?) := Lib.hid (fun e => by rw [List.getElem?_eq_getElem hlt, List.getElem?_eq_getElem hlt', e])
          have HNE : Hid (n.items[k] ≠ n'.items[k] → n.items ≠ n'.items) := Lib.hid (fun e hl => e (List.getElem_of_eq hl hlt))
          generalize n.items[k] = p at cx nx HEQ HNE
          generalize n'.items[k] = p' at cy ny HEQ HNE
          have hd1 : Below wr.heap.size wr wr.drew := ⟨rfl, rfl, rfl, Nat.le_refl _, fun _ _ => rfl⟩
          obtain ⟨c0, c1, c2, c3, c4, c5⟩ := cx
          obtain ⟨d0, d1, d2, d3, d4, d5⟩ := cy
          have hk2 : (k : Int) < (n.items.length : Int) := by omega
          have hs := HB.out.size
          clear hA hA' hlt'
          by_cases hnn : p = p'
          · have HP := Lib.hid (HS.out jm rfl jm' p p' hx hy wr.drew S S' true (nx.below hd1) (ny.below hd1) (iff_true_of hnn))
            have HE1 := Lib.hid (HEQ.out hnn)
            clear nx ny hnn HEQ HNE
            go_wp2
            go_region_with (go_at_call 37; refine HP.out.mono ?_; rintro e w2 ⟨rfl, hb2⟩)
            all_goals
              have HB2 := Lib.hid (HB.out.trans ((show Below W.heap.size wr wr.drew from ⟨rfl, rfl, rfl, Nat.le_refl _, fun _ _ => rfl⟩).trans (hb2.mono (by simpa using hs))))
              clear hb2
              go_wp2
              go_roundw
              case rel =>
                refine ⟨k + 1, by go_num, by omega, HB2, Lib.hid fun j hj => ?_⟩
                rcases Nat.lt_or_ge j k with hl | hge
                · exact HE.out j hl
                · obtain rfl : j = k := by omega
                  exact HE1.out
              case measure => simp [intOf]; omega
          · have HP := Lib.hid (HS.out jm rfl jm' p p' hx hy wr.drew S S' false (nx.below hd1) (ny.below hd1) (iff_false_of hnn))
            obtain rfl : b = false := bool_no HQ.out (fun e => HNE.out hnn e.2.2.2.2.2)
            clear nx ny hnn HEQ HNE
            go_wp2
            go_region_with (go_at_call 37; refine HP.out.mono ?_; rintro e w2 ⟨rfl, hb2⟩)
            all_goals
              have HB2 := Lib.hid (HBA.out.trans ((HB.out.trans ((show Below W.heap.size wr wr.drew from ⟨rfl, rfl, rfl, Nat.le_refl _, fun _ _ => rfl⟩).trans (hb2.mono (by simpa using hs)))).mono HBA.out.size))
              clear hb2
              go_wp2
              go_ret
              exact ⟨rfl, HB2.out⟩
        · obtain rfl : k = n.items.length := by omega
          obtain rfl : b = true := HQ.out.2 ⟨H0.out, H1.out, H2.out, H3.out, HPP.out, List.ext_getElem? fun j => by
            rcases Nat.lt_or_ge j n.items.length with hl | hge
            · exact HE.out j hl
            · rw [List.getElem?_eq_none hge, List.getElem?_eq_none (by have := H5.out; omega)]⟩
          go_wp2
          go_ret
          exact ⟨rfl, HBA.out.trans (HB.out.mono HBA.out.size)⟩
theorem lsN_any : ∀ m, LsN m
  | 0 => lsN_of 0 (fun j h => by omega)
  | m + 1 => lsN_of (m + 1) (fun j h => by
    obtain rfl : m = j := by omega
    exact lsN_any m)
end Go.Proofs.Ytfiiopchfmcjdaa

/- The specification's NodeSame. -/
namespace Go.Proofs.Ytfiiopchfmcjdaa
open Go.RowKit
end Go.Proofs.Ytfiiopchfmcjdaa

/- Alike: the specification's. -/
namespace Go.Proofs.Ytfiiopchfmcjdaa
open Go.RowKit Go.Deep
set_option maxHeartbeats 8000000 in
set_option maxRecDepth 100000 in
theorem specAlike_a (m m' : Nat) (n n' : Nd) (h h' : Hd) (w : World) (S S' : Nat → Prop) (b : Bool) (hn : NdAt w S m n h) (hn' : NdAt w S' m' n' h') (ht : totN m n ≤ 2000000) (ht' : totN m' n' ≤ 2000000) (hb : b = true ↔ (nodeOk n = true ∧ nodeOk n' = true ∧ canN n = canN n')) :
    Calls Try.prog 17 #[.agg #[.int .i64 n.kind, .string n.data, .slice h.A n.ptrs.length h.a, .int .i64 n.size, .int .i64 n.count, .slice h.B n.items.length h.b], .agg #[.int .i64 n'.kind, .string n'.data, .slice h'.A n'.ptrs.length h'.a, .int .i64 n'.size, .int .i64 n'.count, .slice h'.B n'.items.length h'.b]] w fun e w' => e = .returned (.bool b) ∧ Below w.heap.size w w' := by
  have HO1 : Hid (∀ W : World, Below w.heap.size w W → Calls Try.prog 12 #[.agg #[.int .i64 n.kind, .string n.data, .slice h.A n.ptrs.length h.a, .int .i64 n.size, .int .i64 n.count, .slice h.B n.items.length h.b]] W fun e w' => e = .returned (.bool (nodeOk n)) ∧ Below W.heap.size W w') := Lib.hid fun W hW => specNodeOk_a m n h W S (hn.below hW) ht
  have HO2 : Hid (∀ W : World, Below w.heap.size w W → Calls Try.prog 12 #[.agg #[.int .i64 n'.kind, .string n'.data, .slice h'.A n'.ptrs.length h'.a, .int .i64 n'.size, .int .i64 n'.count, .slice h'.B n'.items.length h'.b]] W fun e w' => e = .returned (.bool (nodeOk n')) ∧ Below W.heap.size W w') := Lib.hid fun W hW => specNodeOk_a m' n' h' W S' (hn'.below hW) ht'
  have HC1 : Hid (nodeOk n = true → ∀ W : World, Below w.heap.size w W → Calls Try.prog 27 #[.agg #[.int .i64 n.kind, .string n.data, .slice h.A n.ptrs.length h.a, .int .i64 n.size, .int .i64 n.count, .slice h.B n.items.length h.b]] W (NewO (m + 1) (canN n) W)) := Lib.hid fun hok W hW => spN_any m n h W S (hn.below hW) hok (by rw [← totN_siz hn]; exact ht)
  have HC2 : Hid (nodeOk n' = true → ∀ W : World, Below w.heap.size w W → Calls Try.prog 27 #[.agg #[.int .i64 n'.kind, .string n'.data, .slice h'.A n'.ptrs.length h'.a, .int .i64 n'.size, .int .i64 n'.count, .slice h'.B n'.items.length h'.b]] W (NewO (m' + 1) (canN n') W)) := Lib.hid fun hok W hW => spN_any m' n' h' W S' (hn'.below hW) hok (by rw [← totN_siz hn']; exact ht')
  have HTZ : Hid (nodeOk n = true → ∀ (W : World) (hy : Hd) (bs : List Nat), OwN W (m + 1) (canN n) hy bs → totN (m + 1) (canN n) ≤ 2000000) := Lib.hid fun hok W hy bs ho => by
    rw [totN_siz ho.nd]
    have h1 := siz_can 8 n (node_ok hok).1
    rw [← totN_siz hn] at h1
    omega
  have hba : Below w.heap.size w ((w.alloc (.cells #[.int .i64 n.kind, .string n.data, .slice h.A n.ptrs.length h.a, .int .i64 n.size, .int .i64 n.count, .slice h.B n.items.length h.b] nodeT)).alloc (.cells #[.int .i64 n'.kind, .string n'.data, .slice h'.A n'.ptrs.length h'.a, .int .i64 n'.size, .int .i64 n'.count, .slice h'.B n'.items.length h'.b] nodeT)) := ((Below.refl _ w).alloc (Nat.le_refl _) _).alloc (by simp) _
  have hx0 : ((w.alloc (.cells #[.int .i64 n.kind, .string n.data, .slice h.A n.ptrs.length h.a, .int .i64 n.size, .int .i64 n.count, .slice h.B n.items.length h.b] nodeT)).alloc (.cells #[.int .i64 n'.kind, .string n'.data, .slice h'.A n'.ptrs.length h'.a, .int .i64 n'.size, .int .i64 n'.count, .slice h'.B n'.items.length h'.b] nodeT)).heap[w.heap.size]? = some (.cells #[.int .i64 n.kind, .string n.data, .slice h.A n.ptrs.length h.a, .int .i64 n.size, .int .i64 n.count, .slice h.B n.items.length h.b] nodeT (0, 0)) := heap_alloc_keep (heap_alloc_new w _) _
  have hy0 : ((w.alloc (.cells #[.int .i64 n.kind, .string n.data, .slice h.A n.ptrs.length h.a, .int .i64 n.size, .int .i64 n.count, .slice h.B n.items.length h.b] nodeT)).alloc (.cells #[.int .i64 n'.kind, .string n'.data, .slice h'.A n'.ptrs.length h'.a, .int .i64 n'.size, .int .i64 n'.count, .slice h'.B n'.items.length h'.b] nodeT)).heap[w.heap.size + 1]? = some (.cells #[.int .i64 n'.kind, .string n'.data, .slice h'.A n'.ptrs.length h'.a, .int .i64 n'.size, .int .i64 n'.count, .slice h'.B n'.items.length h'.b] nodeT (0, 0)) := by have := heap_alloc_new (w.alloc (.cells #[.int .i64 n.kind, .string n.data, .slice h.A n.ptrs.length h.a, .int .i64 n.size, .int .i64 n.count, .slice h.B n.items.length h.b] nodeT)) (.cells #[.int .i64 n'.kind, .string n'.data, .slice h'.A n'.ptrs.length h'.a, .int .i64 n'.size, .int .i64 n'.count, .slice h'.B n'.items.length h'.b] nodeT); rwa [show (w.alloc (.cells #[.int .i64 n.kind, .string n.data, .slice h.A n.ptrs.length h.a, .int .i64 n.size, .int .i64 n.count, .slice h.B n.items.length h.b] nodeT)).heap.size = w.heap.size + 1 by simp] at this
  have HBA := Lib.hid hba
  have HBB := Lib.hid hb
  obtain ⟨a0, a1, a2, a3, a4, a5⟩ := cells6 hx0
  obtain ⟨b0, b1, b2, b3, b4, b5⟩ := cells6 hy0
  clear hn hn' ht ht' hb hba hx0 hy0
  go_enter Try.func17, Try.ntmps17
  go_wp2_with fail
  generalize ((w.alloc (.cells #[.int .i64 n.kind, .string n.data, .slice h.A n.ptrs.length h.a, .int .i64 n.size, .int .i64 n.count, .slice h.B n.items.length h.b] nodeT)).alloc (.cells #[.int .i64 n'.kind, .string n'.data, .slice h'.A n'.ptrs.length h'.a, .int .i64 n'.size, .int .i64 n'.count, .slice h'.B n'.items.length h'.b] nodeT)) = W0 at *
  cases hok : nodeOk n
  · have hbf : b = false := bool_no HBB.out (fun h => by rw [hok] at h; cases h.1)
    subst hbf
    rw [hok] at HO1
    clear hok HC1 HC2 HTZ HBB
    have q0 := cell_regrown a0
    have q1 := cell_regrown a1
    have q2 := cell_regrown a2
    have q3 := cell_regrown a3
    have q4 := cell_regrown a4
    have q5 := cell_regrown a5
    have r0 := cell_regrown b0
    have r1 := cell_regrown b1
    have r2 := cell_regrown b2
    have r3 := cell_regrown b3
    have r4 := cell_regrown b4
    have r5 := cell_regrown b5
    have hwx : ∀ d os, Below w.heap.size w («Sort».grow (redrawn W0 d) os) := fun d os => HBA.out.trans ((below_regrown W0 d os).mono HBA.out.size)
    refine wp_region_quiet_below (by kernel_rfl) (by kernel_rfl) ?_
    repeat (first | go_big_quiet_step (first | (go_at_call 12; first | with_reducible exact Calls.regrown_of (HO1.out _ (hwx _ _)) | with_reducible exact Calls.regrown_of (HO2.out _ (hwx _ _)))) | quiet_step (first | (go_at_call 12; first | with_reducible exact Calls.regrown_of (HO1.out _ (hwx _ _)) | with_reducible exact Calls.regrown_of (HO2.out _ (hwx _ _)))))
    refine wpQuiet_nil ?_
    intro _ hw'
    obtain ⟨⟨dq, osq⟩, hw''⟩ := hw'
    subst hw''
    have HFIN := Lib.hid (hwx dq osq)
    clear hwx q0 q1 q2 q3 q4 q5 r0 r1 r2 r3 r4 r5 a0 a1 a2 a3 a4 a5 b0 b1 b2 b3 b4 b5
    generalize «Sort».grow (redrawn W0 dq) osq = W1 at HFIN ⊢
    go_wp2
    go_ret
    exact ⟨rfl, HFIN.out⟩
  · cases hok' : nodeOk n'
    · have hbf : b = false := bool_no HBB.out (fun h => by rw [hok'] at h; cases h.2.1)
      subst hbf
      rw [hok] at HO1
      rw [hok'] at HO2
      clear hok hok' HC1 HC2 HTZ HBB
      have q0 := cell_regrown a0
      have q1 := cell_regrown a1
      have q2 := cell_regrown a2
      have q3 := cell_regrown a3
      have q4 := cell_regrown a4
      have q5 := cell_regrown a5
      have r0 := cell_regrown b0
      have r1 := cell_regrown b1
      have r2 := cell_regrown b2
      have r3 := cell_regrown b3
      have r4 := cell_regrown b4
      have r5 := cell_regrown b5
      have hwx : ∀ d os, Below w.heap.size w («Sort».grow (redrawn W0 d) os) := fun d os => HBA.out.trans ((below_regrown W0 d os).mono HBA.out.size)
      refine wp_region_quiet_below (by kernel_rfl) (by kernel_rfl) ?_
      repeat (first | go_big_quiet_step (first | (go_at_call 12; first | with_reducible exact Calls.regrown_of (HO1.out _ (hwx _ _)) | with_reducible exact Calls.regrown_of (HO2.out _ (hwx _ _)))) | quiet_step (first | (go_at_call 12; first | with_reducible exact Calls.regrown_of (HO1.out _ (hwx _ _)) | with_reducible exact Calls.regrown_of (HO2.out _ (hwx _ _)))))
      refine wpQuiet_nil ?_
      intro _ hw'
      obtain ⟨⟨dq, osq⟩, hw''⟩ := hw'
      subst hw''
      have HFIN := Lib.hid (hwx dq osq)
      clear hwx q0 q1 q2 q3 q4 q5 r0 r1 r2 r3 r4 r5 a0 a1 a2 a3 a4 a5 b0 b1 b2 b3 b4 b5
      generalize «Sort».grow (redrawn W0 dq) osq = W1 at HFIN ⊢
      go_wp2
      go_ret
      exact ⟨rfl, HFIN.out⟩
    · have HBZ : Hid (b = true ↔ canN n = canN n') := Lib.hid (HBB.out.trans ⟨fun h => h.2.2, fun h => ⟨hok, hok', h⟩⟩)
      replace HC1 := Lib.hid (HC1.out hok)
      replace HC2 := Lib.hid (HC2.out hok')
      replace HTZ := Lib.hid (HTZ.out hok)
      rw [hok] at HO1
      rw [hok'] at HO2
      clear hok hok' HBB
      unfold NewO at HC1 HC2
      generalize canN n = z at *
      generalize canN n' = z' at *
      have HSM : Hid (∀ (W : World) (hy1 hy2 : Hd) (S1 S2 : Nat → Prop), NdAt W S1 (m + 1) z hy1 → NdAt W S2 (m' + 1) z' hy2 → Calls Try.prog 37 #[.agg #[.int .i64 z.kind, .string z.data, .slice hy1.A z.ptrs.length hy1.a, .int .i64 z.size, .int .i64 z.count, .slice hy1.B z.items.length hy1.b], .agg #[.int .i64 z'.kind, .string z'.data, .slice hy2.A z'.ptrs.length hy2.a, .int .i64 z'.size, .int .i64 z'.count, .slice hy2.B z'.items.length hy2.b]] W fun e w' => e = .returned (.bool b) ∧ Below W.heap.size W w') := Lib.hid fun W hy1 hy2 S1 S2 p q => lsN_any (m + 1) (m' + 1) z z' hy1 hy2 W S1 S2 b p q HBZ.out
      first | go_region_held3 (fun V => (V.cell? ⟨w.heap.size, 0, none⟩ = some (.int .i64 n.kind) ∧ V.cell? ⟨w.heap.size, 1, none⟩ = some (.string n.data) ∧ V.cell? ⟨w.heap.size, 2, none⟩ = some (.slice h.A n.ptrs.length h.a) ∧ V.cell? ⟨w.heap.size, 3, none⟩ = some (.int .i64 n.size) ∧ V.cell? ⟨w.heap.size, 4, none⟩ = some (.int .i64 n.count) ∧ V.cell? ⟨w.heap.size, 5, none⟩ = some (.slice h.B n.items.length h.b)) ∧ (V.cell? ⟨w.heap.size + 1, 0, none⟩ = some (.int .i64 n'.kind) ∧ V.cell? ⟨w.heap.size + 1, 1, none⟩ = some (.string n'.data) ∧ V.cell? ⟨w.heap.size + 1, 2, none⟩ = some (.slice h'.A n'.ptrs.length h'.a) ∧ V.cell? ⟨w.heap.size + 1, 3, none⟩ = some (.int .i64 n'.size) ∧ V.cell? ⟨w.heap.size + 1, 4, none⟩ = some (.int .i64 n'.count) ∧ V.cell? ⟨w.heap.size + 1, 5, none⟩ = some (.slice h'.B n'.items.length h'.b)) ∧ Below w.heap.size w V) ((first | exact ⟨⟨a0, a1, a2, a3, a4, a5⟩, ⟨b0, b1, b2, b3, b4, b5⟩, HBA.out.drew⟩ | (obtain ⟨⟨s0, s1, s2, s3, s4, s5⟩, ⟨t0, t1, t2, t3, t4, t5⟩, sb⟩ := ‹(_ ∧ _) ∧ (_ ∧ _) ∧ Below w.heap.size w _›; exact ⟨⟨kc hbq s0, kc hbq s1, kc hbq s2, kc hbq s3, kc hbq s4, kc hbq s5⟩, ⟨kc hbq t0, kc hbq t1, kc hbq t2, kc hbq t3, kc hbq t4, kc hbq t5⟩, sb.trans (hbq.mono sb.size)⟩))) (first | (go_at_call 12; first | ((with_reducible refine (HO1.out _ (by have hh := ‹(_ ∧ _) ∧ (_ ∧ _) ∧ Below w.heap.size w _›; exact hh.2.2)).mono ?_); rintro e w4 ⟨rfl, hbq⟩) | ((with_reducible refine (HO2.out _ (by have hh := ‹(_ ∧ _) ∧ (_ ∧ _) ∧ Below w.heap.size w _›; exact hh.2.2)).mono ?_); rintro e w4 ⟨rfl, hbq⟩)) | (go_at_call 27; first | ((with_reducible refine (HC1.out _ (by have hh := ‹(_ ∧ _) ∧ (_ ∧ _) ∧ Below w.heap.size w _›; exact hh.2.2)).mono ?_); rintro e w4 ⟨hy1, bs1, rfl, hown1, hnd1, hge1, hbq⟩) | ((with_reducible refine (HC2.out _ (by have hh := ‹(_ ∧ _) ∧ (_ ∧ _) ∧ Below w.heap.size w _›; exact hh.2.2)).mono ?_); rintro e w5 ⟨hy2, bs2, rfl, hown2, hnd2, hge2, hbq⟩; have hown3 := hown1.below hbq)) | (go_at_call 37; (with_reducible refine (HSM.out _ hy1 hy2 _ _ hown3.clean hown2.clean).mono ?_); rintro e w6 ⟨rfl, hbq⟩)) | fail
      all_goals
        have hfin := ‹(_ ∧ _) ∧ (_ ∧ _) ∧ Below w.heap.size w _›
        have HFIN := Lib.hid hfin.2.2
        clear hfin
        go_wp2
        go_ret
        exact ⟨rfl, HFIN.out⟩
end Go.Proofs.Ytfiiopchfmcjdaa
