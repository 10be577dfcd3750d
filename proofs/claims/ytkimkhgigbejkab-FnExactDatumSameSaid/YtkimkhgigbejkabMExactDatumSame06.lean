/- Texts of the proof of the law FnExactDatumSame, side by side: part 6. -/
import Derived.Test.YtkimkhgigbejkabMExactDatumSame00
import Derived.Test.YtkimkhgigbejkabMExactDatumSame01
import Derived.Test.YtkimkhgigbejkabMExactDatumSame02
import Derived.Test.YtkimkhgigbejkabMExactDatumSame03
import Derived.Test.YtkimkhgigbejkabMExactDatumSame04
import Derived.Test.YtkimkhgigbejkabMExactDatumSame05
/- The specification's l4Same: whether two nodes are the same. -/
namespace Go.Proofs.Ytkimkhgigbejkab
open Go.RowKit
def LsN (m : Nat) : Prop := ∀ (m' : Nat) (n n' : Nd) (h h' : Hd) (w : World) (S S' : Nat → Prop) (b : Bool), NdAt w S m n h → NdAt w S' m' n' h' → (b = true ↔ n = n') →
  Calls Try.prog 32 #[.agg #[.int .i64 n.kind, .string n.data, .slice h.A n.ptrs.length h.a, .int .i64 n.size, .int .i64 n.count, .slice h.B n.items.length h.b], .agg #[.int .i64 n'.kind, .string n'.data, .slice h'.A n'.ptrs.length h'.a, .int .i64 n'.size, .int .i64 n'.count, .slice h'.B n'.items.length h'.b]] w fun e w' => e = .returned (.bool b) ∧ Below w.heap.size w w'
set_option maxHeartbeats 8000000 in
set_option maxRecDepth 100000 in
theorem lsN_of (m : Nat) (hS : ∀ j, m = j + 1 → LsN j) : LsN m := by
  intro m' n n' h h' w S S' b hn hn' hb
  have HS := Lib.hid hS
  have hba : Below w.heap.size w ((w.alloc (.cells #[.int .i64 n.kind, .string n.data, .slice h.A n.ptrs.length h.a, .int .i64 n.size, .int .i64 n.count, .slice h.B n.items.length h.b] nodeT)).alloc (.cells #[.int .i64 n'.kind, .string n'.data, .slice h'.A n'.ptrs.length h'.a, .int .i64 n'.size, .int .i64 n'.count, .slice h'.B n'.items.length h'.b] nodeT)) := ((Below.refl _ _).alloc (Nat.le_refl _) _).alloc (by simp) _
  have k1 : ((w.alloc (.cells #[.int .i64 n.kind, .string n.data, .slice h.A n.ptrs.length h.a, .int .i64 n.size, .int .i64 n.count, .slice h.B n.items.length h.b] nodeT)).alloc (.cells #[.int .i64 n'.kind, .string n'.data, .slice h'.A n'.ptrs.length h'.a, .int .i64 n'.size, .int .i64 n'.count, .slice h'.B n'.items.length h'.b] nodeT)).heap[w.heap.size]? = some (.cells #[.int .i64 n.kind, .string n.data, .slice h.A n.ptrs.length h.a, .int .i64 n.size, .int .i64 n.count, .slice h.B n.items.length h.b] nodeT (0, 0)) := (Below.heap_alloc _ _ _ (by simp)).trans (heap_alloc_new w _)
  have k2 : ((w.alloc (.cells #[.int .i64 n.kind, .string n.data, .slice h.A n.ptrs.length h.a, .int .i64 n.size, .int .i64 n.count, .slice h.B n.items.length h.b] nodeT)).alloc (.cells #[.int .i64 n'.kind, .string n'.data, .slice h'.A n'.ptrs.length h'.a, .int .i64 n'.size, .int .i64 n'.count, .slice h'.B n'.items.length h'.b] nodeT)).heap[w.heap.size + 1]? = some (.cells #[.int .i64 n'.kind, .string n'.data, .slice h'.A n'.ptrs.length h'.a, .int .i64 n'.size, .int .i64 n'.count, .slice h'.B n'.items.length h'.b] nodeT (0, 0)) := by have := heap_alloc_new (w.alloc (.cells #[.int .i64 n.kind, .string n.data, .slice h.A n.ptrs.length h.a, .int .i64 n.size, .int .i64 n.count, .slice h.B n.items.length h.b] nodeT)) (.cells #[.int .i64 n'.kind, .string n'.data, .slice h'.A n'.ptrs.length h'.a, .int .i64 n'.size, .int .i64 n'.count, .slice h'.B n'.items.length h'.b] nodeT); rwa [show (w.alloc (.cells #[.int .i64 n.kind, .string n.data, .slice h.A n.ptrs.length h.a, .int .i64 n.size, .int .i64 n.count, .slice h.B n.items.length h.b] nodeT)).heap.size = w.heap.size + 1 by simp] at this
  have HN := Lib.hid (hn.below hba)
  have HN' := Lib.hid (hn'.below hba)
  have hts : ((w.alloc (.cells #[.int .i64 n.kind, .string n.data, .slice h.A n.ptrs.length h.a, .int .i64 n.size, .int .i64 n.count, .slice h.B n.items.length h.b] nodeT)).alloc (.cells #[.int .i64 n'.kind, .string n'.data, .slice h'.A n'.ptrs.length h'.a, .int .i64 n'.size, .int .i64 n'.count, .slice h'.B n'.items.length h'.b] nodeT)).heap.size = w.heap.size + 2 := by simp
  have HBA := Lib.hid hba
  have HK1 := Lib.hid k1
  have HK2 := Lib.hid k2
  have HTS := Lib.hid hts
  have HQ := Lib.hid (hb.trans (nd_eq n n'))
  have hl1 := hn.2.1.len
  have hl2 := hn.2.2.len
  have hl3 := hn'.2.1.len
  have hl4 := hn'.2.2.len
  unfold maxLen at hl1 hl2 hl3 hl4
  clear hS hn hn' hba k1 k2 hts hb
  by_cases hx : n.kind = n'.kind
  case neg =>
    have hxb : (n.kind != n'.kind) = true := by simpa using hx
    obtain rfl : b = false := bool_no HQ.out (fun e => hx e.1)
    clear hx
    go_enter Try.func32, Try.ntmps32
    go_wp2
    go_ret
    exact ⟨rfl, HBA.out⟩
  have t0 : (n.kind != n'.kind) = false := by simpa using hx
  have H0 := Lib.hid hx
  clear hx
  clear t0
  simp only [← H0.out] at HBA HK1 HK2 HTS HN HN' ⊢
  by_cases hx : n.data = n'.data
  case neg =>
    have hxb : (!(n.data.toList == n'.data.toList)) = true := by rw [toList_eq, decide_eq_false hx]; rfl
    obtain rfl : b = false := bool_no HQ.out (fun e => hx e.2.1)
    have hxc : (n.data.toList == n'.data.toList) = false := by rw [toList_eq]; exact decide_eq_false hx
    clear hx hxb
    go_enter Try.func32, Try.ntmps32
    go_wp2
    go_ret
    exact ⟨rfl, HBA.out⟩
  have t1 : (!(n.data.toList == n'.data.toList)) = false := by rw [toList_eq, decide_eq_true hx]; rfl
  have H1 := Lib.hid hx
  have t1b : (n.data.toList == n'.data.toList) = true := by rw [toList_eq]; exact decide_eq_true hx
  clear hx t1
  by_cases hx : n.size = n'.size
  case neg =>
    have hxb : (n.size != n'.size) = true := by simpa using hx
    obtain rfl : b = false := bool_no HQ.out (fun e => hx e.2.2.1)
    clear hx
    go_enter Try.func32, Try.ntmps32
    go_wp2
    go_ret
    exact ⟨rfl, HBA.out⟩
  have t2 : (n.size != n'.size) = false := by simpa using hx
  have H2 := Lib.hid hx
  clear hx
  clear t2
  simp only [← H2.out] at HBA HK1 HK2 HTS HN HN' ⊢
  by_cases hx : n.count = n'.count
  case neg =>
    have hxb : (n.count != n'.count) = true := by simpa using hx
    obtain rfl : b = false := bool_no HQ.out (fun e => hx e.2.2.2.1)
    clear hx
    go_enter Try.func32, Try.ntmps32
    go_wp2
    go_ret
    exact ⟨rfl, HBA.out⟩
  have t3 : (n.count != n'.count) = false := by simpa using hx
  have H3 := Lib.hid hx
  clear hx
  clear t3
  simp only [← H3.out] at HBA HK1 HK2 HTS HN HN' ⊢
  by_cases hx : n.ptrs.length = n'.ptrs.length
  case neg =>
    have hxb : ((n.ptrs.length : Int) != (n'.ptrs.length : Int)) = true := by simp; omega
    obtain rfl : b = false := bool_no HQ.out (fun e => hx (by rw [e.2.2.2.2.1]))
    clear hx
    go_enter Try.func32, Try.ntmps32
    go_wp2
    go_ret
    exact ⟨rfl, HBA.out⟩
  have t4 : ((n.ptrs.length : Int) != (n'.ptrs.length : Int)) = false := by simp; omega
  have H4 := Lib.hid hx
  clear hx
  by_cases hx : n.items.length = n'.items.length
  case neg =>
    have hxb : ((n.items.length : Int) != (n'.items.length : Int)) = true := by simp; omega
    obtain rfl : b = false := bool_no HQ.out (fun e => hx (by rw [e.2.2.2.2.2]))
    clear hx
    go_enter Try.func32, Try.ntmps32
    go_wp2
    go_ret
    exact ⟨rfl, HBA.out⟩
  have t5 : ((n.items.length : Int) != (n'.items.length : Int)) = false := by simp; omega
  have H5 := Lib.hid hx
  clear hx
  go_enter Try.func32, Try.ntmps32
  go_wp2_with fail
  generalize ((w.alloc (.cells #[.int .i64 n.kind, .string n.data, .slice h.A n.ptrs.length h.a, .int .i64 n.size, .int .i64 n.count, .slice h.B n.items.length h.b] nodeT)).alloc (.cells #[.int .i64 n.kind, .string n'.data, .slice h'.A n'.ptrs.length h'.a, .int .i64 n.size, .int .i64 n.count, .slice h'.B n'.items.length h'.b] nodeT)) = W at *
  go_loopw [5] (fun i wr => ∃ k : Nat, i = .int .i64 k ∧ k ≤ n.ptrs.length ∧ Hid (Below W.heap.size W wr) ∧ Hid (∀ j, j < k → n.ptrs[j]? = n'.ptrs[j]?)) (fun i _ => n.ptrs.length - (intOf i).toNat)
  case atStart => exact ⟨0, rfl, by omega, Lib.hid (Below.refl _ _), Lib.hid (fun j hj => by omega)⟩
  case round =>
    skip
    obtain ⟨k, rfl, hk, HB, HE⟩ := hrel
    obtain ⟨a0, a1, a2, a3, a4, a5⟩ := cells6 ((HB.out.block _ (by have := HTS.out; omega)).trans HK1.out)
    obtain ⟨b0, b1, b2, b3, b4, b5⟩ := cells6 ((HB.out.block _ (by have := HTS.out; omega)).trans HK2.out)
    rw [← H4.out] at b2
    by_cases hlt : k < n.ptrs.length
    · have hlt' : k < n'.ptrs.length := by have := H4.out; omega
      obtain ⟨jm, hjm⟩ := HN.out.2.1.pred hlt
      subst hjm
      obtain ⟨jm', hjm'⟩ := HN'.out.2.1.pred hlt'
      subst hjm'
      obtain ⟨x, hx, hA, cx, nx⟩ := (HN.out.below HB.out).2.1.at_ hlt
      obtain ⟨y, hy, hA', cy, ny⟩ := (HN'.out.below HB.out).2.1.at_ hlt'
      rw [hA] at a2
      rw [hA'] at b2
      have HEQ : Hid (n.ptrs[k] = n'.ptrs[k] → n.ptrs[k]? = n'.ptrs[k]?) := Lib.hid (fun e => by rw [List.getElem?_eq_getElem hlt, List.getElem?_eq_getElem hlt', e])
      have HNE : Hid (n.ptrs[k] ≠ n'.ptrs[k] → n.ptrs ≠ n'.ptrs) := Lib.hid (fun e hl => e (List.getElem_of_eq hl hlt))
      generalize n.ptrs[k] = p at cx nx HEQ HNE
      generalize n'.ptrs[k] = p' at cy ny HEQ HNE
      have hd1 : Below wr.heap.size wr wr.drew := ⟨rfl, rfl, rfl, Nat.le_refl _, fun _ _ => rfl⟩
      obtain ⟨c0, c1, c2, c3, c4, c5⟩ := cx
      obtain ⟨d0, d1, d2, d3, d4, d5⟩ := cy
      have hk2 : (k : Int) < (n.ptrs.length : Int) := by omega
      have hs := HB.out.size
      clear hA hA' hlt'
      by_cases hnn : p = p'
      · have HP := Lib.hid (HS.out jm rfl jm' p p' hx hy wr.drew S S' true (nx.below hd1) (ny.below hd1) (iff_true_of hnn))
        have HE1 := Lib.hid (HEQ.out hnn)
        clear nx ny hnn HEQ HNE
        go_wp2
        go_region_with (go_at_call 32; refine HP.out.mono ?_; rintro e w2 ⟨rfl, hb2⟩)
        all_goals
          have HB2 := Lib.hid (HB.out.trans ((show Below W.heap.size wr wr.drew from ⟨rfl, rfl, rfl, Nat.le_refl _, fun _ _ => rfl⟩).trans (hb2.mono (by simpa using hs))))
          clear hb2
          go_wp2
          go_roundw
          case rel =>
            refine ⟨k + 1, by go_num, by omega, HB2, Lib.hid fun j hj => ?_⟩
            rcases Nat.lt_or_ge j k with hl | hge
            · exact HE.out j hl
            · obtain rfl : j = k := by omega
              exact HE1.out
          case measure => simp [intOf]; omega
      · have HP := Lib.hid (HS.out jm rfl jm' p p' hx hy wr.drew S S' false (nx.below hd1) (ny.below hd1) (iff_false_of hnn))
        obtain rfl : b = false := bool_no HQ.out (fun e => HNE.out hnn e.2.2.2.2.1)
        clear nx ny hnn HEQ HNE
        go_wp2
        go_region_with (go_at_call 32; refine HP.out.mono ?_; rintro e w2 ⟨rfl, hb2⟩)
        all_goals
          have HB2 := Lib.hid (HBA.out.trans ((HB.out.trans ((show Below W.heap.size wr wr.drew from ⟨rfl, rfl, rfl, Nat.le_refl _, fun _ _ => rfl⟩).trans (hb2.mono (by simpa using hs)))).mono HBA.out.size))
          clear hb2
          go_wp2
          go_ret
          exact ⟨rfl, HB2.out⟩
    · obtain rfl : k = n.ptrs.length := by omega
      have HPP : Hid (n.ptrs = n'.ptrs) := Lib.hid (List.ext_getElem? fun j => by
        rcases Nat.lt_or_ge j n.ptrs.length with hl | hge
        · exact HE.out j hl
        · rw [List.getElem?_eq_none hge, List.getElem?_eq_none (by have := H4.out; omega)])
      clear HE
      go_wp2_with fail
      go_loopw [6] (fun i wr => ∃ k : Nat, i = .int .i64 k ∧ k ≤ n.items.length ∧ Hid (Below W.heap.size W wr) ∧ Hid (∀ j, j < k → n.items[j]? = n'.items[j]?)) (fun i _ => n.items.length - (intOf i).toNat)
      case atStart => exact ⟨0, rfl, by omega, HB, Lib.hid (fun j hj => by omega)⟩
      case round =>
        clear a0 a1 a2 a3 a4 a5 b0 b1 b2 b3 b4 b5
        obtain ⟨k, rfl, hk, HB, HE⟩ := hrel
        obtain ⟨a0, a1, a2, a3, a4, a5⟩ := cells6 ((HB.out.block _ (by have := HTS.out; omega)).trans HK1.out)
        obtain ⟨b0, b1, b2, b3, b4, b5⟩ := cells6 ((HB.out.block _ (by have := HTS.out; omega)).trans HK2.out)
        rw [← H5.out] at b5
        by_cases hlt : k < n.items.length
        · have hlt' : k < n'.items.length := by have := H5.out; omega
          obtain ⟨jm, hjm⟩ := HN.out.2.2.pred hlt
          subst hjm
          obtain ⟨jm', hjm'⟩ := HN'.out.2.2.pred hlt'
          subst hjm'
          obtain ⟨x, hx, hA, cx, nx⟩ := (HN.out.below HB.out).2.2.at_ hlt
          obtain ⟨y, hy, hA', cy, ny⟩ := (HN'.out.below HB.out).2.2.at_ hlt'
          rw [hA] at a5
          rw [hA'] at b5
          have HEQ : Hid (n.items[k] = n'.items[k] → n.items[k]? = n'.items[k]?) := Lib.hid (fun e => by rw [List.getElem?_eq_getElem hlt, List.getElem?_eq_getElem hlt', e])
          have HNE : Hid (n.items[k] ≠ n'.items[k] → n.items ≠ n'.items) := Lib.hid (fun e hl => e (List.getElem_of_eq hl hlt))
          generalize n.items[k] = p at cx nx HEQ HNE
          generalize n'.items[k] = p' at cy ny HEQ HNE
          have hd1 : Below wr.heap.size wr wr.drew := ⟨rfl, rfl, rfl, Nat.le_refl _, fun _ _ => rfl⟩
          obtain ⟨c0, c1, c2, c3, c4, c5⟩ := cx
          obtain ⟨d0, d1, d2, d3, d4, d5⟩ := cy
          have hk2 : (k : Int) < (n.items.length : Int) := by omega
          have hs := HB.out.size
          clear hA hA' hlt'
          by_cases hnn : p = p'
          · have HP := Lib.hid (HS.out jm rfl jm' p p' hx hy wr.drew S S' true (nx.below hd1) (ny.below hd1) (iff_true_of hnn))
            have HE1 := Lib.hid (HEQ.out hnn)
            clear nx ny hnn HEQ HNE
            go_wp2
            go_region_with (go_at_call 32; refine HP.out.mono ?_; rintro e w2 ⟨rfl, hb2⟩)
            all_goals
              have HB2 := Lib.hid (HB.out.trans ((show Below W.heap.size wr wr.drew from ⟨rfl, rfl, rfl, Nat.le_refl _, fun _ _ => rfl⟩).trans (hb2.mono (by simpa using hs))))
              clear hb2
              go_wp2
              go_roundw
              case rel =>
                refine ⟨k + 1, by go_num, by omega, HB2, Lib.hid fun j hj => ?_⟩
                rcases Nat.lt_or_ge j k with hl | hge
                · exact HE.out j hl
                · obtain rfl : j = k := by omega
                  exact HE1.out
              case measure => simp [intOf]; omega
          · have HP := Lib.hid (HS.out jm rfl jm' p p' hx hy wr.drew S S' false (nx.below hd1) (ny.below hd1) (iff_false_of hnn))
            obtain rfl : b = false := bool_no HQ.out (fun e => HNE.out hnn e.2.2.2.2.2)
            clear nx ny hnn HEQ HNE
            go_wp2
            go_region_with (go_at_call 32; refine HP.out.mono ?_; rintro e w2 ⟨rfl, hb2⟩)
            all_goals
              have HB2 := Lib.hid (HBA.out.trans ((HB.out.trans ((show Below W.heap.size wr wr.drew from ⟨rfl, rfl, rfl, Nat.le_refl _, fun _ _ => rfl⟩).trans (hb2.mono (by simpa using hs)))).mono HBA.out.size))
              clear hb2
              go_wp2
              go_ret
              exact ⟨rfl, HB2.out⟩
        · obtain rfl : k = n.items.length := by omega
          obtain rfl : b = true := HQ.out.2 ⟨H0.out, H1.out, H2.out, H3.out, HPP.out, List.ext_getElem? fun j => by
            rcases Nat.lt_or_ge j n.items.length with hl | hge
            · exact HE.out j hl
            · rw [List.getElem?_eq_none hge, List.getElem?_eq_none (by have := H5.out; omega)]⟩
          go_wp2
          go_ret
          exact ⟨rfl, HBA.out.trans (HB.out.mono HBA.out.size)⟩
theorem lsN_any : ∀ m, LsN m
  | 0 => lsN_of 0 (fun j h => by omega)
  | m + 1 => lsN_of (m + 1) (fun j h => by
    obtain rfl : m = j := by omega
    exact lsN_any m)
end Go.Proofs.Ytkimkhgigbejkab

/- The specification's DatumSame. -/
namespace Go.Proofs.Ytkimkhgigbejkab
open Go.RowKit Go.Deep
def SamD (m : Nat) : Prop := ∀ (m' : Nat) (n n' : Dt) (h h' : Hd) (w : World) (S S' : Nat → Prop) (b : Bool), DtAt w S m n h → DtAt w S' m' n' h' → (b = true ↔ n = n') →
  Calls Try.prog 39 #[.agg #[.int .i64 n.kind, .int .i64 n.num, .string n.text, .slice h.A n.list.length h.a, .slice h.B n.names.length h.b], .agg #[.int .i64 n'.kind, .int .i64 n'.num, .string n'.text, .slice h'.A n'.list.length h'.a, .slice h'.B n'.names.length h'.b]] w fun e w' => e = .returned (.bool b) ∧ Below w.heap.size w w'
set_option maxHeartbeats 8000000 in
set_option maxRecDepth 100000 in
theorem samD_of (m : Nat) (IH : ∀ j, m = j + 1 → SamD j) : SamD m := by
  intro m' n n' h h' w S S' b hn hn' hb
  have hba : Below w.heap.size w ((w.alloc (.cells #[.int .i64 n.kind, .int .i64 n.num, .string n.text, .slice h.A n.list.length h.a, .slice h.B n.names.length h.b] datT)).alloc (.cells #[.int .i64 n'.kind, .int .i64 n'.num, .string n'.text, .slice h'.A n'.list.length h'.a, .slice h'.B n'.names.length h'.b] datT)) := ((Below.refl _ _).alloc (Nat.le_refl _) _).alloc (by simp) _
  have k1 : ((w.alloc (.cells #[.int .i64 n.kind, .int .i64 n.num, .string n.text, .slice h.A n.list.length h.a, .slice h.B n.names.length h.b] datT)).alloc (.cells #[.int .i64 n'.kind, .int .i64 n'.num, .string n'.text, .slice h'.A n'.list.length h'.a, .slice h'.B n'.names.length h'.b] datT)).heap[w.heap.size]? = some (.cells #[.int .i64 n.kind, .int .i64 n.num, .string n.text, .slice h.A n.list.length h.a, .slice h.B n.names.length h.b] datT (0, 0)) := (Below.heap_alloc _ _ _ (by simp)).trans (heap_alloc_new w _)
  have k2 : ((w.alloc (.cells #[.int .i64 n.kind, .int .i64 n.num, .string n.text, .slice h.A n.list.length h.a, .slice h.B n.names.length h.b] datT)).alloc (.cells #[.int .i64 n'.kind, .int .i64 n'.num, .string n'.text, .slice h'.A n'.list.length h'.a, .slice h'.B n'.names.length h'.b] datT)).heap[w.heap.size + 1]? = some (.cells #[.int .i64 n'.kind, .int .i64 n'.num, .string n'.text, .slice h'.A n'.list.length h'.a, .slice h'.B n'.names.length h'.b] datT (0, 0)) := by have := heap_alloc_new (w.alloc (.cells #[.int .i64 n.kind, .int .i64 n.num, .string n.text, .slice h.A n.list.length h.a, .slice h.B n.names.length h.b] datT)) (.cells #[.int .i64 n'.kind, .int .i64 n'.num, .string n'.text, .slice h'.A n'.list.length h'.a, .slice h'.B n'.names.length h'.b] datT); rwa [show (w.alloc (.cells #[.int .i64 n.kind, .int .i64 n.num, .string n.text, .slice h.A n.list.length h.a, .slice h.B n.names.length h.b] datT)).heap.size = w.heap.size + 1 by simp] at this
  have HN := Lib.hid (hn.below hba)
  have HN' := Lib.hid (hn'.below hba)
  have HQ : Hid (b = true ↔ n.kind = n'.kind ∧ n.num = n'.num ∧ n.text = n'.text ∧ n.list = n'.list ∧ n.names = n'.names) := Lib.hid (hb.trans (dt_eq n n'))
  have l1 := hn.2.1.len
  have l2 := hn'.2.1.len
  have l3 := hn.2.2.1
  have l4 := hn'.2.2.1
  unfold maxLen at l1 l2 l3 l4
  have HIH := Lib.hid IH
  have HBA := Lib.hid hba
  have HK1 := Lib.hid k1
  have HK2 := Lib.hid k2
  have hts : ((w.alloc (.cells #[.int .i64 n.kind, .int .i64 n.num, .string n.text, .slice h.A n.list.length h.a, .slice h.B n.names.length h.b] datT)).alloc (.cells #[.int .i64 n'.kind, .int .i64 n'.num, .string n'.text, .slice h'.A n'.list.length h'.a, .slice h'.B n'.names.length h'.b] datT)).heap.size = w.heap.size + 2 := by simp
  have HTS := Lib.hid hts
  clear hn hn' hb IH k1 k2 hts hba
  by_cases hx : n.kind = n'.kind
  case neg =>
    have hxb : (n.kind != n'.kind) = true := by simpa using hx
    obtain rfl : b = false := bool_no HQ.out (fun e => hx e.1)
    clear hx HN HN' HIH
    go_enter Try.func39, Try.ntmps39
    go_wp2
    go_ret
    exact ⟨rfl, HBA.out⟩
  have t0 : (n.kind != n'.kind) = false := by simpa using hx
  have H0 := Lib.hid hx
  clear hx
  by_cases hx : n.num = n'.num
  case neg =>
    have hxb : (n.num != n'.num) = true := by simpa using hx
    obtain rfl : b = false := bool_no HQ.out (fun e => hx e.2.1)
    clear hx HN HN' HIH
    go_enter Try.func39, Try.ntmps39
    go_wp2
    go_ret
    exact ⟨rfl, HBA.out⟩
  have t1 : (n.num != n'.num) = false := by simpa using hx
  have H1 := Lib.hid hx
  clear hx
  by_cases hx : n.text = n'.text
  case neg =>
    have hxb : (n.text.toList == n'.text.toList) = false := by rw [toList_eq]; exact decide_eq_false hx
    obtain rfl : b = false := bool_no HQ.out (fun e => hx e.2.2.1)
    clear hx HN HN' HIH
    go_enter Try.func39, Try.ntmps39
    go_wp2
    go_ret
    exact ⟨rfl, HBA.out⟩
  have t2 : (n.text.toList == n'.text.toList) = true := by rw [toList_eq]; exact decide_eq_true hx
  have H2 := Lib.hid hx
  clear hx
  by_cases hx : n.list.length = n'.list.length
  case neg =>
    have hxb : ((n.list.length : Int) != (n'.list.length : Int)) = true := by simp; omega
    obtain rfl : b = false := bool_no HQ.out (fun e => hx (congrArg List.length e.2.2.2.1))
    clear hx HN HN' HIH
    go_enter Try.func39, Try.ntmps39
    go_wp2
    go_ret
    exact ⟨rfl, HBA.out⟩
  have t3 : ((n.list.length : Int) != (n'.list.length : Int)) = false := by simp; omega
  have H3 := Lib.hid hx
  clear hx
  by_cases hx : n.names.length = n'.names.length
  case neg =>
    have hxb : ((n.names.length : Int) != (n'.names.length : Int)) = true := by simp; omega
    obtain rfl : b = false := bool_no HQ.out (fun e => hx (congrArg List.length e.2.2.2.2))
    clear hx HN HN' HIH
    go_enter Try.func39, Try.ntmps39
    go_wp2
    go_ret
    exact ⟨rfl, HBA.out⟩
  have t4 : ((n.names.length : Int) != (n'.names.length : Int)) = false := by simp; omega
  have H4 := Lib.hid hx
  clear hx
  go_enter Try.func39, Try.ntmps39
  go_wp2
  generalize ((w.alloc (.cells #[.int .i64 n.kind, .int .i64 n.num, .string n.text, .slice h.A n.list.length h.a, .slice h.B n.names.length h.b] datT)).alloc (.cells #[.int .i64 n'.kind, .int .i64 n'.num, .string n'.text, .slice h'.A n'.list.length h'.a, .slice h'.B n'.names.length h'.b] datT)) = W at *
  clear t0 t1 t2 t3 t4
  go_loopw [5] (fun i wr => ∃ k : Nat, i = .int .i64 k ∧ k ≤ n.list.length ∧ Hid (Below W.heap.size W wr) ∧ Hid (∀ j, j < k → n.list[j]? = n'.list[j]?)) (fun i _ => n.list.length - (intOf i).toNat)
  case atStart => exact ⟨0, rfl, by omega, Lib.hid (Below.refl _ _), Lib.hid (fun j hj => by omega)⟩
  case round =>
    skip
    obtain ⟨k, rfl, hk, HB, HE⟩ := hrel
    obtain ⟨a0, a1, a2, a3, a4⟩ := cells5 ((HB.out.block _ (by have := HTS.out; omega)).trans HK1.out)
    obtain ⟨b0, b1, b2, b3, b4⟩ := cells5 ((HB.out.block _ (by have := HTS.out; omega)).trans HK2.out)
    rw [← H3.out] at b3
    by_cases hlt : k < n.list.length
    · have hlt' : k < n'.list.length := by have := H3.out; omega
      obtain ⟨jm, hjm⟩ := HN.out.2.1.pred hlt
      subst hjm
      obtain ⟨jm', hjm'⟩ := HN'.out.2.1.pred hlt'
      subst hjm'
      obtain ⟨x, hx, hA, cx, nx⟩ := (HN.out.below HB.out).2.1.at_ hlt
      obtain ⟨y, hy, hA', cy, ny⟩ := (HN'.out.below HB.out).2.1.at_ hlt'
      rw [hA] at a3
      rw [hA'] at b3
      have HEQ : Hid (n.list[k] = n'.list[k] → n.list[k]? = n'.list[k]?) := Lib.hid (fun e => by rw [List.getElem?_eq_getElem hlt, List.getElem?_eq_getElem hlt', e])
      have HNE : Hid (n.list[k] ≠ n'.list[k] → n.list ≠ n'.list) := Lib.hid (fun e hl => e (List.getElem_of_eq hl hlt))
      generalize n.list[k] = p at cx nx HEQ HNE
      generalize n'.list[k] = p' at cy ny HEQ HNE
      have hd1 : Below wr.heap.size wr wr.drew := ⟨rfl, rfl, rfl, Nat.le_refl _, fun _ _ => rfl⟩
      obtain ⟨c0, c1, c2, c3, c4⟩ := cx
      obtain ⟨d0, d1, d2, d3, d4⟩ := cy
      have hk2 : (k : Int) < (n.list.length : Int) := by omega
      have hs := HB.out.size
      clear hA hA' hlt' a0 a1 a2 a4 b0 b1 b2 b4
      by_cases hnn : p = p'
      · have HP := Lib.hid (HIH.out jm rfl jm' p p' hx hy wr.drew S S' true (nx.below hd1) (ny.below hd1) (iff_true_of hnn))
        have HE1 := Lib.hid (HEQ.out hnn)
        clear nx ny hnn HEQ HNE
        go_wp2
        go_region_with (go_at_call 39; refine HP.out.mono ?_; rintro e w2 ⟨rfl, hb2⟩)
        all_goals
          have HB2 := Lib.hid (HB.out.trans ((show Below W.heap.size wr wr.drew from ⟨rfl, rfl, rfl, Nat.le_refl _, fun _ _ => rfl⟩).trans (hb2.mono (by simpa using hs))))
          clear hb2
          go_wp2
          go_roundw
          case rel =>
            refine ⟨k + 1, by go_num, by omega, HB2, Lib.hid fun j hj => ?_⟩
            rcases Nat.lt_or_ge j k with hl | hge
            · exact HE.out j hl
            · obtain rfl : j = k := by omega
              exact HE1.out
          case measure => simp [intOf]; omega
      · have HP := Lib.hid (HIH.out jm rfl jm' p p' hx hy wr.drew S S' false (nx.below hd1) (ny.below hd1) (iff_false_of hnn))
        obtain rfl : b = false := bool_no HQ.out (fun e => HNE.out hnn e.2.2.2.1)
        clear nx ny hnn HEQ HNE
        go_wp2
        go_region_with (go_at_call 39; refine HP.out.mono ?_; rintro e w2 ⟨rfl, hb2⟩)
        all_goals
          have HB2 := Lib.hid (HBA.out.trans ((HB.out.trans ((show Below W.heap.size wr wr.drew from ⟨rfl, rfl, rfl, Nat.le_refl _, fun _ _ => rfl⟩).trans (hb2.mono (by simpa using hs)))).mono HBA.out.size))
          clear hb2
          go_wp2
          go_ret
          exact ⟨rfl, HB2.out⟩
    · obtain rfl : k = n.list.length := by omega
      have HPP : Hid (n.list = n'.list) := Lib.hid (List.ext_getElem? fun j => by
        rcases Nat.lt_or_ge j n.list.length with hl | hge
        · exact HE.out j hl
        · rw [List.getElem?_eq_none hge, List.getElem?_eq_none (by have := H3.out; omega)])
      clear HE hk hlt
      have HB0 := HB
      clear HB
      go_wp2
      clear a0 a1 a2 a3 a4 b0 b1 b2 b3 b4
      go_loopw [6] (fun i wq => ∃ k : Nat, i = .int .i64 k ∧ k ≤ n.names.length ∧ Hid (Below W.heap.size W wq) ∧ Hid (∀ j, j < k → n.names[j]? = n'.names[j]?)) (fun i _ => n.names.length - (intOf i).toNat)
      case atStart => exact ⟨0, rfl, by omega, HB0, Lib.hid (fun j hj => by omega)⟩
      case round =>
        skip
        obtain ⟨k, rfl, hk, HB, HE⟩ := hrel
        obtain ⟨a0, a1, a2, a3, a4⟩ := cells5 ((HB.out.block _ (by have := HTS.out; omega)).trans HK1.out)
        obtain ⟨b0, b1, b2, b3, b4⟩ := cells5 ((HB.out.block _ (by have := HTS.out; omega)).trans HK2.out)
        rw [← H4.out] at b4
        by_cases hlt : k < n.names.length
        · have hlt' : k < n'.names.length := by have := H4.out; omega
          obtain ⟨x, hA, _, hcx⟩ := (HN.out.below HB.out).2.2.2.1.2.resolve_left (by intro h; rw [h] at hlt; simp at hlt)
          obtain ⟨y, hA', _, hcy⟩ := (HN'.out.below HB.out).2.2.2.1.2.resolve_left (by intro h; rw [h] at hlt'; simp at hlt')
          rw [hA] at a4
          rw [hA'] at b4
          have c0 := hcx k hlt
          have d0 := hcy k hlt'
          have HEQ : Hid (n.names[k] = n'.names[k] → n.names[k]? = n'.names[k]?) := Lib.hid (fun e => by rw [List.getElem?_eq_getElem hlt, List.getElem?_eq_getElem hlt', e])
          have HNE : Hid (n.names[k] ≠ n'.names[k] → n.names ≠ n'.names) := Lib.hid (fun e hl => e (List.getElem_of_eq hl hlt))
          generalize n.names[k] = p at c0 HEQ HNE
          generalize n'.names[k] = p' at d0 HEQ HNE
          have hk2 : (k : Int) < (n.names.length : Int) := by omega
          have hs := HB.out.size
          clear hA hA' hlt' hcx hcy a0 a1 a2 a3 b0 b1 b2 b3
          by_cases hnn : p = p'
          · have hxb : (p.toList == p'.toList) = true := by rw [toList_eq]; exact decide_eq_true hnn
            have HE1 := Lib.hid (HEQ.out hnn)
            have HB2 := Lib.hid (HB.out.trans (show Below W.heap.size wr wr.drew from ⟨rfl, rfl, rfl, Nat.le_refl _, fun _ _ => rfl⟩))
            clear hnn HEQ HNE
            go_wp2
            go_region
            all_goals
              go_wp2
              go_roundw
              case rel =>
                refine ⟨k + 1, by go_num, by omega, HB2, Lib.hid fun j hj => ?_⟩
                rcases Nat.lt_or_ge j k with hl | hge
                · exact HE.out j hl
                · obtain rfl : j = k := by omega
                  exact HE1.out
              case measure => simp [intOf]; omega
          · have hxb : (p.toList == p'.toList) = false := by rw [toList_eq]; exact decide_eq_false hnn
            obtain rfl : b = false := bool_no HQ.out (fun e => HNE.out hnn e.2.2.2.2)
            have HB2 := Lib.hid (HBA.out.trans ((HB.out.trans (show Below W.heap.size wr wr.drew from ⟨rfl, rfl, rfl, Nat.le_refl _, fun _ _ => rfl⟩)).mono HBA.out.size))
            clear hnn HEQ HNE
            go_wp2
            go_region
            all_goals
              go_wp2
              go_ret
              exact ⟨rfl, HB2.out⟩
        · obtain rfl : k = n.names.length := by omega
          have hnm : n.names = n'.names := List.ext_getElem? fun j => by
            rcases Nat.lt_or_ge j n.names.length with hl | hge
            · exact HE.out j hl
            · rw [List.getElem?_eq_none hge, List.getElem?_eq_none (by have := H4.out; omega)]
          obtain rfl : b = true := HQ.out.2 ⟨H0.out, H1.out, H2.out, HPP.out, hnm⟩
          have HB2 := Lib.hid (HBA.out.trans (HB.out.mono HBA.out.size))
          clear hnm HE HPP
          go_wp2
          go_ret
          exact ⟨rfl, HB2.out⟩
theorem samD_any : ∀ m, SamD m
  | 0 => samD_of 0 (fun j h => by cases h)
  | m + 1 => samD_of (m + 1) (fun j h => by obtain rfl : m = j := by omega
                                            exact samD_any m)
set_option maxHeartbeats 1000000 in
theorem specDatumSame_a (m m' : Nat) (n n' : Dt) (h h' : Hd) (w : World) (S S' : Nat → Prop) (b : Bool) (hn : DtAt w S m n h) (hn' : DtAt w S' m' n' h') (hb : b = true ↔ n = n') :
    Calls Try.prog 15 #[.agg #[.int .i64 n.kind, .int .i64 n.num, .string n.text, .slice h.A n.list.length h.a, .slice h.B n.names.length h.b], .agg #[.int .i64 n'.kind, .int .i64 n'.num, .string n'.text, .slice h'.A n'.list.length h'.a, .slice h'.B n'.names.length h'.b]] w fun e w' => e = .returned (.bool b) ∧ Below w.heap.size w w' := by
  have HC : Hid (∀ W : World, Below w.heap.size w W → Calls Try.prog 39 #[.agg #[.int .i64 n.kind, .int .i64 n.num, .string n.text, .slice h.A n.list.length h.a, .slice h.B n.names.length h.b], .agg #[.int .i64 n'.kind, .int .i64 n'.num, .string n'.text, .slice h'.A n'.list.length h'.a, .slice h'.B n'.names.length h'.b]] W fun e w' => e = .returned (.bool b) ∧ Below W.heap.size W w') := Lib.hid fun W hW => samD_any m m' n n' h h' W S S' b (hn.below hW) (hn'.below hW) hb
  have HB := Lib.hid (((Below.refl w.heap.size w).alloc (Nat.le_refl _) (.cells #[.int .i64 n.kind, .int .i64 n.num, .string n.text, .slice h.A n.list.length h.a, .slice h.B n.names.length h.b] datT)).alloc (by simp) (.cells #[.int .i64 n'.kind, .int .i64 n'.num, .string n'.text, .slice h'.A n'.list.length h'.a, .slice h'.B n'.names.length h'.b] datT))
  clear hn hn' hb
  go_enter Try.func15, Try.ntmps15
  go_wp2_with fail
  refine (HC.out _ HB.out).mono ?_
  rintro e w1 ⟨rfl, hb1⟩
  have HB1 := Lib.hid (HB.out.trans (hb1.mono HB.out.size))
  clear hb1
  go_wp2
  go_ret
  exact ⟨rfl, HB1.out⟩
end Go.Proofs.Ytkimkhgigbejkab

/- The walk of the law FnExactDatumSame. -/
namespace Go.Proofs.Ytkimkhgigbejkab
open Go.RowKit
theorem StrsIn.mapL {w : World} {S S' : Nat → Prop} (hS : ∀ k, k < w.heap.size → S k → S' k) {A : Option Addr} {ss : List ByteArray} (h : StrsIn w S A ss) : StrsIn w S' A ss := by
  obtain ⟨hl, h2, h3⟩ := h
  refine ⟨hl, h2, ?_⟩
  rcases h3 with h0 | ⟨x, hx, hs⟩
  · exact .inl h0
  · rcases h2.2 with h0 | ⟨a, ha, hlt, _⟩
    · exact .inl h0
    · obtain rfl : a = x := by rw [ha] at hx; exact Option.some.inj hx
      exact .inr ⟨a, ha, hS _ hlt hs⟩
theorem DtsAt.mapL {w : World} {S S' : Nat → Prop} (hS : ∀ k, k < w.heap.size → S k → S' k) : ∀ m A l, DtsAt w S m A l → DtsAt w S' m A l
  | 0, _, _, h => h
  | m + 1, A, l, ⟨hl, q, hq, hc, hr⟩ => ⟨hl, q, hq, by
    rcases hc with rfl | ⟨x, hx, hsx, hk⟩
    · exact .inl rfl
    · cases q with
      | nil => exact .inl rfl
      | cons r t =>
        have := (hk 0 r rfl).lt
        rw [addr_block] at this
        exact .inr ⟨x, hx, hS _ this hsx, hk⟩, fun r h => ⟨(hr r h).1, DtsAt.mapL hS m _ _ (hr r h).2.1, (hr r h).2.2.mapL hS⟩⟩
theorem DtAt.mapL {w : World} {S S' : Nat → Prop} {m : Nat} {n : Dt} {h : Hd} (hn : DtAt w S m n h) (hS : ∀ k, k < w.heap.size → S k → S' k) : DtAt w S' m n h := ⟨hn.1, DtsAt.mapL hS _ _ _ hn.2.1, hn.2.2.mapL hS⟩
theorem dt_clean {w : World} {B m : Nat} {n : Dt} {h : Hd} (hn : DtAt w (From B) m n h) (hc : CleanFrom B w) : DtAt w (Clean w) m n h := hn.mapL (fun k hk hs => hc k hs hk)
set_option maxHeartbeats 8000000 in
set_option maxRecDepth 100000 in
theorem walkExactDatumSame (w : World) (m : Nat) (n : Dt) (h : Hd) (hn : DtAt w Any m n h) (m' : Nat) (n' : Dt) (h' : Hd) (hn' : DtAt w Any m' n' h') :
    Calls Try.prog 5 #[.agg #[.int .i64 n.kind, .int .i64 n.num, .string n.text, .slice h.A n.list.length h.a, .slice h.B n.names.length h.b], .agg #[.int .i64 n'.kind, .int .i64 n'.num, .string n'.text, .slice h'.A n'.list.length h'.a, .slice h'.B n'.names.length h'.b]] w fun e w' => e = .returned (.bool true) ∧ Below w.heap.size w w' := by
  obtain ⟨b, hb⟩ : ∃ b : Bool, (b = true ↔ n = n') := by
    by_cases e : n = n'
    · exact ⟨true, iff_true_of e⟩
    · exact ⟨false, iff_false_of e⟩
  have HQ := Lib.hid hb
  have hb0 : Below w.heap.size w ((w.alloc (.cells #[.int .i64 n.kind, .int .i64 n.num, .string n.text, .slice h.A n.list.length h.a, .slice h.B n.names.length h.b] 39)).alloc (.cells #[.int .i64 n'.kind, .int .i64 n'.num, .string n'.text, .slice h'.A n'.list.length h'.a, .slice h'.B n'.names.length h'.b] 39)) := ((Below.refl _ _).alloc (Nat.le_refl _) _).alloc (by simp) _
  have HB0 := Lib.hid hb0
  have HR : Hid (((w.alloc (.cells #[.int .i64 n.kind, .int .i64 n.num, .string n.text, .slice h.A n.list.length h.a, .slice h.B n.names.length h.b] 39)).alloc (.cells #[.int .i64 n'.kind, .int .i64 n'.num, .string n'.text, .slice h'.A n'.list.length h'.a, .slice h'.B n'.names.length h'.b] 39)).heap[w.heap.size]? = some (.cells #[.int .i64 n.kind, .int .i64 n.num, .string n.text, .slice h.A n.list.length h.a, .slice h.B n.names.length h.b] 39 (0, 0))) := Lib.hid ((Below.heap_alloc _ _ _ (by simp)).trans (heap_alloc_new w _))
  have HS : Hid (((w.alloc (.cells #[.int .i64 n.kind, .int .i64 n.num, .string n.text, .slice h.A n.list.length h.a, .slice h.B n.names.length h.b] 39)).alloc (.cells #[.int .i64 n'.kind, .int .i64 n'.num, .string n'.text, .slice h'.A n'.list.length h'.a, .slice h'.B n'.names.length h'.b] 39)).heap[w.heap.size + 1]? = some (.cells #[.int .i64 n'.kind, .int .i64 n'.num, .string n'.text, .slice h'.A n'.list.length h'.a, .slice h'.B n'.names.length h'.b] 39 (0, 0))) := Lib.hid (by have := heap_alloc_new (w.alloc (.cells #[.int .i64 n.kind, .int .i64 n.num, .string n.text, .slice h.A n.list.length h.a, .slice h.B n.names.length h.b] 39)) (.cells #[.int .i64 n'.kind, .int .i64 n'.num, .string n'.text, .slice h'.A n'.list.length h'.a, .slice h'.B n'.names.length h'.b] 39); rwa [show (w.alloc (.cells #[.int .i64 n.kind, .int .i64 n.num, .string n.text, .slice h.A n.list.length h.a, .slice h.B n.names.length h.b] 39)).heap.size = w.heap.size + 1 by simp] at this)
  have HSZ := Lib.hid (szD_any m n h ((w.alloc (.cells #[.int .i64 n.kind, .int .i64 n.num, .string n.text, .slice h.A n.list.length h.a, .slice h.B n.names.length h.b] 39)).alloc (.cells #[.int .i64 n'.kind, .int .i64 n'.num, .string n'.text, .slice h'.A n'.list.length h'.a, .slice h'.B n'.names.length h'.b] 39)) 1048576 Any (hn.below hb0) (by decide) (by decide))
  by_cases hbig : (1048576 : Int) < (totD m n : Nat)
  · rw [szR_neg hbig] at HSZ
    clear hn hbig hb0 hb
    go_enter Try.func5, Try.ntmps5
    go_wp2_with fail
    refine HSZ.out.mono ?_
    rintro e w1 ⟨rfl, hb1⟩
    have HB1 := Lib.hid (HB0.out.trans (hb1.mono HB0.out.size))
    clear hb1
    go_wp2
    go_ret
    exact ⟨rfl, HB1.out⟩
  have ht : totD m n ≤ 1048576 := by omega
  rw [szR_pos (by omega)] at HSZ
  have hl0 : 0 ≤ (1048576 : Int) - (totD m n : Nat) := by omega
  have hl1 : (1048576 : Int) - (totD m n : Nat) ≤ 1048576 := by omega
  generalize (1048576 : Int) - (totD m n : Nat) = lf at *
  have HZ2 : Hid (∀ W : World, Below w.heap.size w W → Calls Try.prog 14 #[.agg #[.int .i64 n'.kind, .int .i64 n'.num, .string n'.text, .slice h'.A n'.list.length h'.a, .slice h'.B n'.names.length h'.b], .int .i64 lf] W fun e w' => e = .returned (.int .i64 (szR lf (totD m' n'))) ∧ Below W.heap.size W w') := Lib.hid fun W hW => szD_any m' n' h' W lf Any (hn'.below hW) hl0 hl1
  have HTA : Hid (∀ W : World, Below w.heap.size w W → Calls Try.prog 16 #[.agg #[.int .i64 n.kind, .int .i64 n.num, .string n.text, .slice h.A n.list.length h.a, .slice h.B n.names.length h.b]] W (NewDC m n W)) := Lib.hid fun W hW => toDC_any m n h W Any (hn.below hW) ht
  by_cases hbig2 : lf < (totD m' n' : Nat)
  · rw [szR_neg hbig2] at HZ2
    clear hn hn' hbig hbig2 hb0 hb hl1
    go_enter Try.func5, Try.ntmps5
    go_wp2_with fail
    refine HSZ.out.mono ?_
    rintro e w1 ⟨rfl, hb1⟩
    have HB1 := Lib.hid (HB0.out.trans (hb1.mono HB0.out.size))
    have hs1 := (hb1.block _ (row_lt HS.out)).trans HS.out
    obtain ⟨b0, b1, b2, b3, b4⟩ := cells5 hs1
    clear hb1 hs1
    go_wp2_with fail
    refine (HZ2.out _ HB1.out).mono ?_
    rintro e w2 ⟨rfl, hb2⟩
    have HB2 := Lib.hid (HB1.out.trans (hb2.mono HB1.out.size))
    clear hb2 b0 b1 b2 b3 b4
    go_wp2
    go_ret
    exact ⟨rfl, HB2.out⟩
  have ht2 : totD m' n' ≤ 1048576 := by omega
  rw [szR_pos (by omega)] at HZ2
  have hl3 : 0 ≤ lf - (totD m' n' : Nat) := by omega
  generalize lf - (totD m' n' : Nat) = lf2 at *
  have HTB : Hid (∀ W : World, Below w.heap.size w W → Calls Try.prog 16 #[.agg #[.int .i64 n'.kind, .int .i64 n'.num, .string n'.text, .slice h'.A n'.list.length h'.a, .slice h'.B n'.names.length h'.b]] W (NewDC m' n' W)) := Lib.hid fun W hW => toDC_any m' n' h' W Any (hn'.below hW) ht2
  have HT := Lib.hid (And.intro ht ht2)
  have HEA : Hid (∀ (x y : Hd) (W : World) (S S' : Nat → Prop), DtAt W S m n x → DtAt W S' m n y → Calls Try.prog 18 #[.agg #[.int .i64 n.kind, .int .i64 n.num, .string n.text, .slice x.A n.list.length x.a, .slice x.B n.names.length x.b], .agg #[.int .i64 n.kind, .int .i64 n.num, .string n.text, .slice y.A n.list.length y.a, .slice y.B n.names.length y.b]] W fun e w' => e = .returned (.bool true) ∧ Below W.heap.size W w') := Lib.hid fun x y W S S' p q => eqD_any m n x y W S S' p q ht
  have HEB : Hid (∀ (x y : Hd) (W : World) (S S' : Nat → Prop), DtAt W S m' n' x → DtAt W S' m' n' y → Calls Try.prog 18 #[.agg #[.int .i64 n'.kind, .int .i64 n'.num, .string n'.text, .slice x.A n'.list.length x.a, .slice x.B n'.names.length x.b], .agg #[.int .i64 n'.kind, .int .i64 n'.num, .string n'.text, .slice y.A n'.list.length y.a, .slice y.B n'.names.length y.b]] W fun e w' => e = .returned (.bool true) ∧ Below W.heap.size W w') := Lib.hid fun x y W S S' p q => eqD_any m' n' x y W S S' p q ht2
  clear hn hn' hbig hbig2 hb0 hb hl1 ht ht2
  go_enter Try.func5, Try.ntmps5
  go_wp2_with fail
  refine HSZ.out.mono ?_
  rintro e w1 ⟨rfl, hb1⟩
  have HB1 := Lib.hid (HB0.out.trans (hb1.mono HB0.out.size))
  have HR1 := Lib.hid ((hb1.block _ (row_lt HR.out)).trans HR.out)
  have HS1 := Lib.hid ((hb1.block _ (row_lt HS.out)).trans HS.out)
  obtain ⟨b0, b1, b2, b3, b4⟩ := cells5 HS1.out
  clear hb1
  go_wp2_with fail
  refine (HZ2.out _ HB1.out).mono ?_
  rintro e w2 ⟨rfl, hb2⟩
  have HB2 := Lib.hid (HB1.out.trans (hb2.mono HB1.out.size))
  have HR2 := Lib.hid ((hb2.block _ (row_lt HR1.out)).trans HR1.out)
  have HS2 := Lib.hid ((hb2.block _ (row_lt HS1.out)).trans HS1.out)
  clear hb2 b0 b1 b2 b3 b4
  obtain ⟨a0, a1, a2, a3, a4⟩ := cells5 HR2.out
  obtain ⟨b0, b1, b2, b3, b4⟩ := cells5 HS2.out
  go_wp2_with fail
  go_region_with (first | (go_at_call 16; first | ((with_reducible refine (HTA.out _ (by exact HB2.out.drew)).mono ?_); rintro e w4 ⟨h4, rfl, hn4, hb4, hc4⟩; have HB4 := Lib.hid (HB2.out.drew.trans (hb4.mono HB2.out.size)); have HR4 := Lib.hid ((hb4.block _ (row_lt HR2.out)).trans HR2.out); have HS4 := Lib.hid ((hb4.block _ (row_lt HS2.out)).trans HS2.out); obtain ⟨e0, e1, e2, e3, e4⟩ := cells5 HS4.out; have HN4 := Lib.hid hn4; clear hb4 hn4 hc4) | ((with_reducible refine (HTB.out _ (by exact HB4.out)).mono ?_); rintro e w5 ⟨h5, rfl, hn5, hb5, hc5⟩; have HB5 := Lib.hid (HB4.out.trans (hb5.mono HB4.out.size)); have HR5 := Lib.hid ((hb5.block _ (row_lt HR4.out)).trans HR4.out); have HS5 := Lib.hid ((hb5.block _ (row_lt HS4.out)).trans HS4.out); have HN5 := Lib.hid (HN4.out.below hb5); have HM5 := Lib.hid hn5; clear hb5 hn5 hc5)) | (go_at_call 15; (with_reducible refine (specDatumSame_a m m' n n' h4 h5 _ _ _ b HN5.out HM5.out HQ.out).mono ?_); rintro e w6 ⟨rfl, hb6⟩))
  all_goals
    have HB6 := Lib.hid (HB5.out.trans (hb6.mono HB5.out.size))
    have HR6 := Lib.hid ((hb6.block _ (row_lt HR5.out)).trans HR5.out)
    have HS6 := Lib.hid ((hb6.block _ (row_lt HS5.out)).trans HS5.out)
    clear hb6 a0 a1 a2 a3 a4 b0 b1 b2 b3 b4 e0 e1 e2 e3 e4 HN5 HM5 HN4
    obtain ⟨a0, a1, a2, a3, a4⟩ := cells5 HR6.out
    go_wp2_with fail
    refine (HTA.out _ HB6.out).mono ?_
    rintro e w7 ⟨h7, rfl, hn7, hb7, hc7⟩
    have hbx := (Below.refl w7.heap.size w7).alloc (Nat.le_refl _) (.cells #[.int .i64 n.kind, .int .i64 n.num, .string n.text, .slice h7.A n.list.length h7.a, .slice h7.B n.names.length h7.b] datT)
    have HB7 := Lib.hid ((HB6.out.trans (hb7.mono HB6.out.size)).trans (hbx.mono (HB6.out.trans (hb7.mono HB6.out.size)).size))
    have HS7 := Lib.hid (((hbx.block _ (by have := hb7.size; have := row_lt HS6.out; omega))).trans ((hb7.block _ (row_lt HS6.out)).trans HS6.out))
    have HR7 := Lib.hid (((hbx.block _ (by have := hb7.size; have := row_lt HR6.out; omega))).trans ((hb7.block _ (row_lt HR6.out)).trans HR6.out))
    have HX7 := Lib.hid (heap_alloc_new w7 (.cells #[.int .i64 n.kind, .int .i64 n.num, .string n.text, .slice h7.A n.list.length h7.a, .slice h7.B n.names.length h7.b] datT))
    have HN7 := Lib.hid (((dt_clean hn7 hc7).below hbx).weak (S' := Clean (w7.alloc (.cells #[.int .i64 n.kind, .int .i64 n.num, .string n.text, .slice h7.A n.list.length h7.a, .slice h7.B n.names.length h7.b] datT))) (fun k hk => clean_belowD hk hbx))
    clear a0 a1 a2 a3 a4 hb7 hn7 hc7 hbx
    obtain ⟨b0, b1, b2, b3, b4⟩ := cells5 HS7.out
    go_wp2_with fail
    generalize w7.alloc (.cells #[.int .i64 n.kind, .int .i64 n.num, .string n.text, .slice h7.A n.list.length h7.a, .slice h7.B n.names.length h7.b] datT) = W7 at *
    refine (HTB.out _ HB7.out).mono ?_
    rintro e w8 ⟨h8, rfl, hn8, hb8, hc8⟩
    have hbx := (Below.refl w8.heap.size w8).alloc (Nat.le_refl _) (.cells #[.int .i64 n'.kind, .int .i64 n'.num, .string n'.text, .slice h8.A n'.list.length h8.a, .slice h8.B n'.names.length h8.b] datT)
    have hbs := HB7.out.trans (hb8.mono HB7.out.size)
    have HB8 := Lib.hid (hbs.trans (hbx.mono hbs.size))
    have HS8 := Lib.hid ((hbx.block _ (by have := hb8.size; have := row_lt HS7.out; omega)).trans ((hb8.block _ (row_lt HS7.out)).trans HS7.out))
    have HR8 := Lib.hid ((hbx.block _ (by have := hb8.size; have := row_lt HR7.out; omega)).trans ((hb8.block _ (row_lt HR7.out)).trans HR7.out))
    have HX8 := Lib.hid ((hbx.block _ (by have := hb8.size; have := row_lt HX7.out; omega)).trans ((hb8.block _ (row_lt HX7.out)).trans HX7.out))
    have HY8 := Lib.hid (heap_alloc_new w8 (.cells #[.int .i64 n'.kind, .int .i64 n'.num, .string n'.text, .slice h8.A n'.list.length h8.a, .slice h8.B n'.names.length h8.b] datT))
    have HN8 := Lib.hid (((HN7.out.below hb8).below hbx).weak (S' := Clean (w8.alloc (.cells #[.int .i64 n'.kind, .int .i64 n'.num, .string n'.text, .slice h8.A n'.list.length h8.a, .slice h8.B n'.names.length h8.b] datT))) (fun k hk => clean_belowD (clean_belowD hk hb8) hbx))
    have HM8 := Lib.hid (((dt_clean hn8 hc8).below hbx).weak (S' := Clean (w8.alloc (.cells #[.int .i64 n'.kind, .int .i64 n'.num, .string n'.text, .slice h8.A n'.list.length h8.a, .slice h8.B n'.names.length h8.b] datT))) (fun k hk => clean_belowD hk hbx))
    clear b0 b1 b2 b3 b4 hb8 hn8 hc8 hbx hbs
    obtain ⟨a0, a1, a2, a3, a4⟩ := cells5 HX8.out
    obtain ⟨b0, b1, b2, b3, b4⟩ := cells5 HY8.out
    go_wp2_with fail
    clear a0 a1 a2 a3 a4 b0 b1 b2 b3 b4
    generalize w8.alloc (.cells #[.int .i64 n'.kind, .int .i64 n'.num, .string n'.text, .slice h8.A n'.list.length h8.a, .slice h8.B n'.names.length h8.b] datT) = W8 at *
    refine (implDatumSame_a m m' n n' h7 h8 W8 b HN8.out HM8.out HT.out.1 HQ.out).mono ?_
    rintro e w9 ⟨rfl, hb9⟩
    have HB9 := Lib.hid (HB8.out.trans (hb9.mono HB8.out.size))
    have HR9 := Lib.hid ((hb9.block _ (row_lt HR8.out)).trans HR8.out)
    have HS9 := Lib.hid ((hb9.block _ (row_lt HS8.out)).trans HS8.out)
    have HX9 := Lib.hid ((hb9.block _ (row_lt HX8.out)).trans HX8.out)
    have HY9 := Lib.hid ((hb9.block _ (row_lt HY8.out)).trans HY8.out)
    have HN9 := Lib.hid (HN8.out.below hb9)
    have HM9 := Lib.hid (HM8.out.below hb9)
    have HN9f : Hid (∀ V : World, Below w9.drew.heap.size w9.drew V → DtAt V (Clean W8) m n h7) := Lib.hid fun V hV => HN9.out.below ((Below.mk rfl rfl rfl (Nat.le_refl _) (fun _ _ => rfl) : Below w9.heap.size w9 w9.drew).trans hV)
    clear hb9
    obtain ⟨a0, a1, a2, a3, a4⟩ := cells5 HR9.out
    obtain ⟨x0, x1, x2, x3, x4⟩ := cells5 HX9.out
    go_wp2_with fail
    go_region_with (first | (go_at_call 16; (with_reducible refine (HTA.out _ (by exact HB9.out.drew)).mono ?_); rintro e wa ⟨ha, rfl, hna, hba, hca⟩; have hxa := (hba.block _ (row_lt HX9.out)).trans HX9.out; obtain ⟨f0, f1, f2, f3, f4⟩ := cells5 hxa) | (go_at_call 18; (with_reducible refine (HEA.out h7 ha _ _ _ (HN9f.out _ hba) hna).mono ?_); rintro e wb ⟨rfl, hbb⟩))
    all_goals
      have hbab : Below w9.heap.size w9 wb := ((Below.mk rfl rfl rfl (Nat.le_refl _) (fun _ _ => rfl) : Below w9.heap.size w9 w9.drew).trans hba).trans (hbb.mono hba.size)
      have HBb := Lib.hid (HB9.out.trans (hbab.mono HB9.out.size))
      have HSb := Lib.hid ((hbab.block _ (row_lt HS9.out)).trans HS9.out)
      have HYb := Lib.hid ((hbab.block _ (row_lt HY9.out)).trans HY9.out)
      have HMb := Lib.hid (HM9.out.below hbab)
      have HMbf : Hid (∀ V : World, Below wb.drew.heap.size wb.drew V → DtAt V (Clean W8) m' n' h8) := Lib.hid fun V hV => HMb.out.below ((Below.mk rfl rfl rfl (Nat.le_refl _) (fun _ _ => rfl) : Below wb.heap.size wb wb.drew).trans hV)
      clear hba hbb hbab hna hca hxa f0 f1 f2 f3 f4 a0 a1 a2 a3 a4 x0 x1 x2 x3 x4
      obtain ⟨b0, b1, b2, b3, b4⟩ := cells5 HSb.out
      obtain ⟨y0, y1, y2, y3, y4⟩ := cells5 HYb.out
      go_wp2_with fail
      go_region_with (first | (go_at_call 16; (with_reducible refine (HTB.out _ (by exact HBb.out.drew)).mono ?_); rintro e wc ⟨hcc, rfl, hnc, hbc, hcl⟩; have hxc := (hbc.block _ (row_lt HYb.out)).trans HYb.out; obtain ⟨f0, f1, f2, f3, f4⟩ := cells5 hxc) | (go_at_call 18; (with_reducible refine (HEB.out h8 hcc _ _ _ (HMbf.out _ hbc) hnc).mono ?_); rintro e wd ⟨rfl, hbd⟩))
      all_goals
        have HBd := Lib.hid ((HBb.out.drew.trans (hbc.mono HBb.out.drew.size)).trans (hbd.mono (HBb.out.drew.trans (hbc.mono HBb.out.drew.size)).size))
        clear hbc hbd
        go_wp2
        go_ret
        exact ⟨rfl, HBd.out⟩
end Go.Proofs.Ytkimkhgigbejkab
