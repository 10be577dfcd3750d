/- Texts of the proof of the law FnReadFar, side by side: part 37. -/
import Derived.Test.YtlbfffokkhccaaaGreatDoorMReadFar00
import Derived.Test.YtlbfffokkhccaaaGreatDoorMReadFar01
import Derived.Test.YtlbfffokkhccaaaGreatDoorMReadFar02
import Derived.Test.YtlbfffokkhccaaaGreatDoorMReadFar03
import Derived.Test.YtlbfffokkhccaaaGreatDoorMReadFar04
import Derived.Test.YtlbfffokkhccaaaGreatDoorMReadFar05
import Derived.Test.YtlbfffokkhccaaaGreatDoorMReadFar06
import Derived.Test.YtlbfffokkhccaaaGreatDoorMReadFar07
import Derived.Test.YtlbfffokkhccaaaGreatDoorMReadFar08
import Derived.Test.YtlbfffokkhccaaaGreatDoorMReadFar09
import Derived.Test.YtlbfffokkhccaaaGreatDoorMReadFar10
import Derived.Test.YtlbfffokkhccaaaGreatDoorMReadFar11
import Derived.Test.YtlbfffokkhccaaaGreatDoorMReadFar12
import Derived.Test.YtlbfffokkhccaaaGreatDoorMReadFar13
import Derived.Test.YtlbfffokkhccaaaGreatDoorMReadFar14
import Derived.Test.YtlbfffokkhccaaaGreatDoorMReadFar15
import Derived.Test.YtlbfffokkhccaaaGreatDoorMReadFar16
import Derived.Test.YtlbfffokkhccaaaGreatDoorMReadFar17
import Derived.Test.YtlbfffokkhccaaaGreatDoorMReadFar18
import Derived.Test.YtlbfffokkhccaaaGreatDoorMReadFar19
import Derived.Test.YtlbfffokkhccaaaGreatDoorMReadFar20
import Derived.Test.YtlbfffokkhccaaaGreatDoorMReadFar21
import Derived.Test.YtlbfffokkhccaaaGreatDoorMReadFar22
import Derived.Test.YtlbfffokkhccaaaGreatDoorMReadFar23
import Derived.Test.YtlbfffokkhccaaaGreatDoorMReadFar24
import Derived.Test.YtlbfffokkhccaaaGreatDoorMReadFar25
import Derived.Test.YtlbfffokkhccaaaGreatDoorMReadFar26
import Derived.Test.YtlbfffokkhccaaaGreatDoorMReadFar27
import Derived.Test.YtlbfffokkhccaaaGreatDoorMReadFar28
import Derived.Test.YtlbfffokkhccaaaGreatDoorMReadFar29
import Derived.Test.YtlbfffokkhccaaaGreatDoorMReadFar30
import Derived.Test.YtlbfffokkhccaaaGreatDoorMReadFar31
import Derived.Test.YtlbfffokkhccaaaGreatDoorMReadFar32
import Derived.Test.YtlbfffokkhccaaaGreatDoorMReadFar33
import Derived.Test.YtlbfffokkhccaaaGreatDoorMReadFar34
import Derived.Test.YtlbfffokkhccaaaGreatDoorMReadFar35
import Derived.Test.YtlbfffokkhccaaaGreatDoorMReadFar36
namespace Go.Proofs.YtlbfffokkhccaaaGreatDoor
open Go.RowKit
theorem nd_eq (n n' : Nd) : n = n' ↔ n.kind = n'.kind ∧ n.data = n'.data ∧ n.size = n'.size ∧ n.count = n'.count ∧ n.ptrs = n'.ptrs ∧ n.items = n'.items := by
  cases n
  cases n'
  simp only [Nd.mk.injEq, Nd.kind, Nd.data, Nd.size, Nd.count, Nd.ptrs, Nd.items]
  exact ⟨fun h => ⟨h.1, h.2.1, h.2.2.2.1, h.2.2.2.2.1, h.2.2.1, h.2.2.2.2.2⟩, fun h => ⟨h.1, h.2.1, h.2.2.2.2.1, h.2.2.1, h.2.2.2.1, h.2.2.2.2.2⟩⟩
theorem bool_no {b : Bool} {p : Prop} (h : b = true ↔ p) (hp : ¬ p) : b = false := by cases b; rfl; exact absurd (h.1 rfl) hp
theorem iff_true_of {p : Prop} (hp : p) : (true = true ↔ p) := ⟨fun _ => hp, fun _ => rfl⟩
theorem iff_false_of {p : Prop} (hp : ¬ p) : (false = true ↔ p) := ⟨fun h => (by cases h), fun h => absurd h hp⟩
def QnS (m : Nat) : Prop := ∀ (m' : Nat) (A B : Option Addr) (c c' : Nat) (l l' : List Nd) (w : World) (S S' : Nat → Prop) (b : Bool), NdsAt w S m A l → NdsAt w S' m' B l' → (b = true ↔ l = l') →
  Calls Tryz.prog 47 #[.slice A l.length c, .slice B l'.length c'] w fun e w' => e = .returned (.bool b) ∧ Below w.heap.size w w'
def QnN (m : Nat) : Prop := ∀ (m' : Nat) (n n' : Nd) (h h' : Hd) (w : World) (S S' : Nat → Prop) (b : Bool), NdAt w S m n h → NdAt w S' m' n' h' → (b = true ↔ n = n') →
  Calls Tryz.prog 16 #[.agg #[.int .i64 n.kind, .string n.data, .slice h.A n.ptrs.length h.a, .int .i64 n.size, .int .i64 n.count, .slice h.B n.items.length h.b], .agg #[.int .i64 n'.kind, .string n'.data, .slice h'.A n'.ptrs.length h'.a, .int .i64 n'.size, .int .i64 n'.count, .slice h'.B n'.items.length h'.b]] w fun e w' => e = .returned (.bool b) ∧ Below w.heap.size w w'
set_option maxHeartbeats 4000000 in
set_option maxRecDepth 100000 in
theorem qnN_of (m : Nat) (hS : QnS m) : QnN m := by
  intro m' n n' h h' w S S' b hn hn' hb
  have HS := Lib.hid hS
  have hba : Below w.heap.size w ((w.alloc (.cells #[.int .i64 n.kind, .string n.data, .slice h.A n.ptrs.length h.a, .int .i64 n.size, .int .i64 n.count, .slice h.B n.items.length h.b] nodeT)).alloc (.cells #[.int .i64 n'.kind, .string n'.data, .slice h'.A n'.ptrs.length h'.a, .int .i64 n'.size, .int .i64 n'.count, .slice h'.B n'.items.length h'.b] nodeT)) := ((Below.refl _ _).alloc (Nat.le_refl _) _).alloc (by simp) _
  have k1 : ((w.alloc (.cells #[.int .i64 n.kind, .string n.data, .slice h.A n.ptrs.length h.a, .int .i64 n.size, .int .i64 n.count, .slice h.B n.items.length h.b] nodeT)).alloc (.cells #[.int .i64 n'.kind, .string n'.data, .slice h'.A n'.ptrs.length h'.a, .int .i64 n'.size, .int .i64 n'.count, .slice h'.B n'.items.length h'.b] nodeT)).heap[w.heap.size]? = some (.cells #[.int .i64 n.kind, .string n.data, .slice h.A n.ptrs.length h.a, .int .i64 n.size, .int .i64 n.count, .slice h.B n.items.length h.b] nodeT (0, 0)) := (Below.heap_alloc _ _ _ (by simp)).trans (heap_alloc_new w _)
  have k2 : ((w.alloc (.cells #[.int .i64 n.kind, .string n.data, .slice h.A n.ptrs.length h.a, .int .i64 n.size, .int .i64 n.count, .slice h.B n.items.length h.b] nodeT)).alloc (.cells #[.int .i64 n'.kind, .string n'.data, .slice h'.A n'.ptrs.length h'.a, .int .i64 n'.size, .int .i64 n'.count, .slice h'.B n'.items.length h'.b] nodeT)).heap[w.heap.size + 1]? = some (.cells #[.int .i64 n'.kind, .string n'.data, .slice h'.A n'.ptrs.length h'.a, .int .i64 n'.size, .int .i64 n'.count, .slice h'.B n'.items.length h'.b] nodeT (0, 0)) := by have := heap_alloc_new (w.alloc (.cells #[.int .i64 n.kind, .string n.data, .slice h.A n.ptrs.length h.a, .int .i64 n.size, .int .i64 n.count, .slice h.B n.items.length h.b] nodeT)) (.cells #[.int .i64 n'.kind, .string n'.data, .slice h'.A n'.ptrs.length h'.a, .int .i64 n'.size, .int .i64 n'.count, .slice h'.B n'.items.length h'.b] nodeT); rwa [show (w.alloc (.cells #[.int .i64 n.kind, .string n.data, .slice h.A n.ptrs.length h.a, .int .i64 n.size, .int .i64 n.count, .slice h.B n.items.length h.b] nodeT)).heap.size = w.heap.size + 1 by simp] at this
  have HN := Lib.hid (hn.below hba)
  have HN' := Lib.hid (hn'.below hba)
  have hts : ((w.alloc (.cells #[.int .i64 n.kind, .string n.data, .slice h.A n.ptrs.length h.a, .int .i64 n.size, .int .i64 n.count, .slice h.B n.items.length h.b] nodeT)).alloc (.cells #[.int .i64 n'.kind, .string n'.data, .slice h'.A n'.ptrs.length h'.a, .int .i64 n'.size, .int .i64 n'.count, .slice h'.B n'.items.length h'.b] nodeT)).heap.size = w.heap.size + 2 := by simp
  have HBA := Lib.hid hba
  have HK1 := Lib.hid k1
  have HK2 := Lib.hid k2
  have HTS := Lib.hid hts
  have HQ := Lib.hid (hb.trans (nd_eq n n'))
  clear hS hn hn' hba k1 k2 hts hb
  by_cases hx : n.kind = n'.kind
  case neg =>
    have hxb : (n.kind == n'.kind) = false := by simpa using hx
    obtain rfl : b = false := by
      cases b
      · rfl
      · exact absurd (HQ.out.1 rfl).1 hx
    clear hx
    go_enter Tryz.func16, Tryz.ntmps16
    go_wp2
    go_ret
    exact ⟨rfl, HBA.out⟩
  have h1b : (n.kind == n'.kind) = true := by simpa using hx
  have H1 := Lib.hid hx
  clear hx
  by_cases hx : n.data = n'.data
  case neg =>
    have hxb : (n.data.toList == n'.data.toList) = false := by rw [toList_eq]; exact decide_eq_false hx
    obtain rfl : b = false := by
      cases b
      · rfl
      · exact absurd (HQ.out.1 rfl).2.1 hx
    clear hx
    go_enter Tryz.func16, Tryz.ntmps16
    go_wp2
    go_ret
    exact ⟨rfl, HBA.out⟩
  have h2b : (n.data.toList == n'.data.toList) = true := by rw [toList_eq]; exact decide_eq_true hx
  have H2 := Lib.hid hx
  clear hx
  by_cases hx : n.size = n'.size
  case neg =>
    have hxb : (n.size == n'.size) = false := by simpa using hx
    obtain rfl : b = false := by
      cases b
      · rfl
      · exact absurd (HQ.out.1 rfl).2.2.1 hx
    clear hx
    go_enter Tryz.func16, Tryz.ntmps16
    go_wp2
    go_ret
    exact ⟨rfl, HBA.out⟩
  have h3b : (n.size == n'.size) = true := by simpa using hx
  have H3 := Lib.hid hx
  clear hx
  by_cases hx : n.count = n'.count
  case neg =>
    have hxb : (n.count == n'.count) = false := by simpa using hx
    obtain rfl : b = false := by
      cases b
      · rfl
      · exact absurd (HQ.out.1 rfl).2.2.2.1 hx
    clear hx
    go_enter Tryz.func16, Tryz.ntmps16
    go_wp2
    go_ret
    exact ⟨rfl, HBA.out⟩
  have h4b : (n.count == n'.count) = true := by simpa using hx
  have H4 := Lib.hid hx
  clear hx
  by_cases hx : n.ptrs = n'.ptrs
  case neg =>
    obtain rfl : b = false := by
      cases b
      · rfl
      · exact absurd (HQ.out.1 rfl).2.2.2.2.1 hx
    have HC := Lib.hid (HS.out m' h.A h'.A h.a h'.a n.ptrs n'.ptrs _ S S' false HN.out.2.1 HN'.out.2.1 (iff_false_of hx))
    clear hx
    go_enter Tryz.func16, Tryz.ntmps16
    go_wp2_with fail
    refine HC.out.mono ?_
    rintro e w1 ⟨rfl, hb1⟩
    have HB1 := Lib.hid (HBA.out.trans (hb1.mono HBA.out.size))
    clear hb1
    go_wp2
    go_ret
    exact ⟨rfl, HB1.out⟩
  have H5 := Lib.hid hx
  have HC := Lib.hid (HS.out m' h.A h'.A h.a h'.a n.ptrs n'.ptrs _ S S' true HN.out.2.1 HN'.out.2.1 (iff_true_of hx))
  have H6 : Hid (b = true ↔ n.items = n'.items) := Lib.hid ⟨fun h => (HQ.out.1 h).2.2.2.2.2, fun h => HQ.out.2 ⟨H1.out, H2.out, H3.out, H4.out, H5.out, h⟩⟩
  clear hx
  go_enter Tryz.func16, Tryz.ntmps16
  go_wp2_with fail
  generalize ((w.alloc (.cells #[.int .i64 n.kind, .string n.data, .slice h.A n.ptrs.length h.a, .int .i64 n.size, .int .i64 n.count, .slice h.B n.items.length h.b] nodeT)).alloc (.cells #[.int .i64 n'.kind, .string n'.data, .slice h'.A n'.ptrs.length h'.a, .int .i64 n'.size, .int .i64 n'.count, .slice h'.B n'.items.length h'.b] nodeT)) = W at *
  refine HC.out.mono ?_
  rintro e w1 ⟨rfl, hb1⟩
  have HB1 := Lib.hid hb1
  obtain ⟨a0, a1, a2, a3, a4, a5⟩ := cells6 ((hb1.block _ (by have := HTS.out; omega)).trans HK1.out)
  obtain ⟨b0, b1, b2, b3, b4, b5⟩ := cells6 ((hb1.block _ (by have := HTS.out; omega)).trans HK2.out)
  clear hb1
  go_wp2_with fail
  refine (HS.out m' h.B h'.B h.b h'.b n.items n'.items w1 S S' b (HN.out.below HB1.out).2.2 (HN'.out.below HB1.out).2.2 H6.out).mono ?_
  rintro e w2 ⟨rfl, hb2⟩
  have HB2 := Lib.hid (HBA.out.trans ((HB1.out.trans (hb2.mono HB1.out.size)).mono (by have := HTS.out; omega)))
  clear hb2
  go_wp2
  go_ret
  exact ⟨rfl, HB2.out⟩
theorem qnS_zero : QnS 0 := by
  intro m' A B c c' l l' w S S' b hl hl' hb
  obtain rfl := hl.zero
  have hlen := hl'.len
  unfold maxLen at hlen
  by_cases h0 : l'.length = 0
  · obtain rfl : b = true := hb.2 (List.eq_nil_of_length_eq_zero h0).symm
    rw [h0]
    clear hb hl hl' h0 hlen
    go_enter Tryz.func47, Tryz.ntmps47
    go_wp2
    go_loop [5] (fun i => i = .int .i64 0) (fun _ => 0)
    case atStart => rfl
    case round =>
      obtain rfl := hrel
      go_wp2
      go_ret
      exact ⟨rfl, Below.refl _ _⟩
  · obtain rfl : b = false := bool_no hb (fun e => h0 (by rw [← e]; rfl))
    have hxb : ((([] : List Nd).length : Int) != (l'.length : Int)) = true := by simp; omega
    clear hb hl hl'
    go_enter Tryz.func47, Tryz.ntmps47
    go_wp2
    go_ret
    exact ⟨rfl, Below.refl _ _⟩
set_option maxHeartbeats 4000000 in
set_option maxRecDepth 100000 in
theorem qnS_succ (m : Nat) (hN : QnN m) : QnS (m + 1) := by
  intro m' A B c c' l l' w S S' b h h' hb
  have hlm := h.len
  have hlm' := h'.len
  unfold maxLen at hlm hlm'
  by_cases hll : l'.length = l.length
  case neg =>
    obtain rfl : b = false := bool_no hb (fun e => hll (by rw [e]))
    have hxb : ((l.length : Int) != (l'.length : Int)) = true := by simp; omega
    clear hb h h' hN
    go_enter Tryz.func47, Tryz.ntmps47
    go_wp2
    go_ret
    exact ⟨rfl, Below.refl _ _⟩
  have HF := Lib.hid h
  have HG := Lib.hid (h'.mono (Nat.le_succ m'))
  have HN := Lib.hid hN
  have HQ := Lib.hid hb
  rw [hll]
  have HLL := Lib.hid hll
  clear h h' hN hb hll hlm'
  go_enter Tryz.func47, Tryz.ntmps47
  go_wp2
  go_loopw [5] (fun i wr => ∃ k : Nat, i = .int .i64 k ∧ k ≤ l.length ∧ Hid (Below w.heap.size w wr) ∧ Hid (∀ j, j < k → l[j]? = l'[j]?)) (fun i _ => l.length - (intOf i).toNat)
  case atStart => exact ⟨0, rfl, by omega, Lib.hid (Below.refl _ _), Lib.hid (fun j hj => by omega)⟩
  case round =>
    obtain ⟨k, rfl, hk, HB, HE⟩ := hrel
    by_cases hlt : k < l.length
    · have hlt' : k < l'.length := by have := HLL.out; omega
      obtain ⟨x, hx, rfl, cx, nx⟩ := (HF.out.below HB.out).at_ hlt
      obtain ⟨y, hy, rfl, cy, ny⟩ := (HG.out.below HB.out).at_ hlt'
      have HEQ : Hid (l[k] = l'[k] → l[k]? = l'[k]?) := Lib.hid (fun e => by rw [List.getElem?_eq_getElem hlt, List.getElem?_eq_getElem hlt', e])
      have HNE : Hid (l[k] ≠ l'[k] → l ≠ l') := Lib.hid (fun e hl => e (by subst hl; rfl))
      generalize l[k] = n at cx nx HEQ HNE
      generalize l'[k] = n' at cy ny HEQ HNE
      have hd1 : Below wr.heap.size wr wr.drew := ⟨rfl, rfl, rfl, Nat.le_refl _, fun _ _ => rfl⟩
      have hx1 := cx.lt
      have hx2 := cy.lt
      obtain ⟨c0, c1, c2, c3, c4, c5⟩ := cx
      obtain ⟨d0, d1, d2, d3, d4, d5⟩ := cy
      have hk2 : (k : Int) < (l.length : Int) := by omega
      have hs := HB.out.size
      by_cases hnn : n = n'
      · have HP := Lib.hid (HN.out m' n n' hx hy wr.drew S S' true (nx.below hd1) (ny.below hd1) (iff_true_of hnn))
        have HP0 := Lib.hid (HN.out m' n n' hx hy wr S S' true nx ny (iff_true_of hnn))
        have HE1 := Lib.hid (HEQ.out hnn)
        clear nx ny hnn HEQ HNE
        go_wp2
        go_region_with (go_at_call 16; refine HP.out.mono ?_; rintro e w2 ⟨rfl, hb2⟩)
        all_goals
          have HB2 := Lib.hid (HB.out.trans ((show Below w.heap.size wr wr.drew from ⟨rfl, rfl, rfl, Nat.le_refl _, fun _ _ => rfl⟩).trans (hb2.mono (by simpa using hs))))
          clear hb2
          go_wp2
          go_roundw
          case rel =>
            refine ⟨k + 1, by go_num, by omega, HB2, Lib.hid fun j hj => ?_⟩
            rcases Nat.lt_or_ge j k with hl | hge
            · exact HE.out j hl
            · obtain rfl : j = k := by omega
              exact HE1.out
          case measure => simp [intOf]; omega
      · have HP := Lib.hid (HN.out m' n n' hx hy wr.drew S S' false (nx.below hd1) (ny.below hd1) (iff_false_of hnn))
        obtain rfl : b = false := bool_no HQ.out (HNE.out hnn)
        clear nx ny hnn HEQ HNE
        go_wp2
        go_region_with (go_at_call 16; refine HP.out.mono ?_; rintro e w2 ⟨rfl, hb2⟩)
        all_goals
          have HB2 := Lib.hid (HB.out.trans ((show Below w.heap.size wr wr.drew from ⟨rfl, rfl, rfl, Nat.le_refl _, fun _ _ => rfl⟩).trans (hb2.mono (by simpa using hs))))
          clear hb2
          go_wp2
          go_ret
          exact ⟨rfl, HB2.out⟩
    · obtain rfl : k = l.length := by omega
      obtain rfl : b = true := HQ.out.2 (List.ext_getElem? fun j => by
        rcases Nat.lt_or_ge j l.length with hl | hge
        · exact HE.out j hl
        · rw [List.getElem?_eq_none hge, List.getElem?_eq_none (by have := HLL.out; omega)])
      go_wp2
      go_ret
      exact ⟨rfl, HB.out⟩
theorem qnS_any : ∀ m, QnS m
  | 0 => qnS_zero
  | m + 1 => qnS_succ m (qnN_of m (qnS_any m))
theorem qnN_any (m : Nat) : QnN m := qnN_of m (qnS_any m)
end Go.Proofs.YtlbfffokkhccaaaGreatDoor

namespace Go.Proofs.YtlbfffokkhccaaaGreatDoor
open Go.RowKit Go.Deep
theorem far_bytes : (ptW 3 0 0 0 0 0 1 false) = farW 0 1 := by decide
theorem strs_two (w : World) (F S : ByteArray) (hF : F.size ≤ maxLen) (hS : S.size ≤ maxLen) : Strs (w.alloc (.cells #[.string F, .string S] 9)) (some ⟨w.heap.size, 0, none⟩) [F, S] := by
  refine ⟨fun s hs => by simp at hs; rcases hs with rfl | rfl <;> assumption, .inr ⟨_, rfl, by simp, fun i hi => ?_⟩⟩
  have h := heap_alloc_new w (.cells #[.string F, .string S] 9)
  have hi2 : i = 0 ∨ i = 1 := by simp at hi; omega
  rcases hi2 with rfl | rfl
  · rw [add_zero0, cell_of_row _ _ _ _ _ _ h]; rfl
  · rw [add_zero0, cell_of_row _ _ _ _ _ _ h]; rfl
set_option maxHeartbeats 4000000 in
set_option maxRecDepth 100000 in
theorem walkReadFar (w : World) (a : Option Addr) (len cap : Nat) (h : Arg w a len cap) :
    Calls Tryz.prog 6 #[.slice a len cap] w fun e w' => e = .returned (.bool true) ∧ Below w.heap.size w w' := by
  have hlen := h.1.1
  unfold maxLen at hlen
  by_cases hbig : 1048576 < len
  · go_enter Tryz.func6, Tryz.ntmps6
    go_wp2
    go_ret
    exact ⟨rfl, Below.refl _ _⟩
  have HD := Lib.hid (drawBuildOne_any a len cap w h)
  clear h
  go_enter Tryz.func6, Tryz.ntmps6
  go_wp2_with fail
  refine HD.out.mono ?_
  rintro e w1 ⟨n, h1, rfl, hn1, ht1, hb1⟩
  have hb2 := (Below.refl w1.heap.size w1).alloc (Nat.le_refl _) (.cells #[.int .i64 n.kind, .string n.data, .slice h1.A n.ptrs.length h1.a, .int .i64 n.size, .int .i64 n.count, .slice h1.B n.items.length h1.b] nodeT)
  have HR2 := Lib.hid (heap_alloc_new w1 (.cells #[.int .i64 n.kind, .string n.data, .slice h1.A n.ptrs.length h1.a, .int .i64 n.size, .int .i64 n.count, .slice h1.B n.items.length h1.b] nodeT))
  have HB2 := Lib.hid (hb1.trans (hb2.mono hb1.size))
  have HN2 := Lib.hid ((hn1.weak (S' := Any) (fun _ _ => trivial)).below hb2)
  have HT : Hid (totN 18 n ≤ 2000000) := Lib.hid (by omega)
  clear hb1 hn1 ht1 hb2 HD
  have HLT := Lib.hid (show w1.heap.size < (w1.alloc (.cells #[.int .i64 n.kind, .string n.data, .slice h1.A n.ptrs.length h1.a, .int .i64 n.size, .int .i64 n.count, .slice h1.B n.items.length h1.b] nodeT)).heap.size by simp)
  obtain ⟨a0, a1, a2, a3, a4, a5⟩ := cells6 HR2.out
  go_wp2_with fail
  generalize w1.alloc (.cells #[.int .i64 n.kind, .string n.data, .slice h1.A n.ptrs.length h1.a, .int .i64 n.size, .int .i64 n.count, .slice h1.B n.items.length h1.b] nodeT) = W2 at *
  have HI := Lib.hid (fun (W : World) (hW : Below W2.heap.size W2 W) => (implBuildOne_a 18 n h1 W Any (HN2.out.below hW) HT.out).mono (fun _ _ h => h.det))
  have HS := Lib.hid (fun (W : World) (hW : Below W2.heap.size W2 W) => (specBuildOne_a 18 n h1 W Any (HN2.out.below hW) HT.out).mono (fun _ _ h => h.det))
  have HC : Hid (∀ W : World, Below W2.heap.size W2 W → Calls Tryz.prog 12 #[.agg #[.int .i64 n.kind, .string n.data, .slice h1.A n.ptrs.length h1.a, .int .i64 n.size, .int .i64 n.count, .slice h1.B n.items.length h1.b]] W fun e w' => e = .returned (.int .i64 (nodeCost n : Nat)) ∧ Below W.heap.size W w') := Lib.hid fun W hW => implReadCost_a 18 n h1 W Any (HN2.out.below hW) HT.out
  have HPU : Hid (oneB (bldV n 200) = true → _) := Lib.hid (fun h => one_rd (n := n) h)
  have HNC : Hid (nodeOk n = true → nodeCost n = costN 8 n) := Lib.hid fun h => by unfold nodeCost; rw [if_pos h]
  generalize nodeCost n = nc at *
  cases hb : oneB (bldV n 200) with
  | false =>
    rw [hb] at HI HS
    clear HPU HC HNC hb
    generalize oneS (bldV n 200) = SB at *
    refine (HI.out _ (Below.refl _ _)).mono ?_
    rintro e w3 ⟨rfl, hb3⟩
    have HX3 := Lib.hid hb3
    clear hb3 a0 a1 a2 a3 a4 a5
    obtain ⟨a0, a1, a2, a3, a4, a5⟩ := cells6 ((HX3.out.block _ HLT.out).trans HR2.out)
    go_wp2_with fail
    refine (HS.out _ HX3.out).mono ?_
    rintro e w4 ⟨rfl, hb4⟩
    have HX4 := Lib.hid (HB2.out.trans ((HX3.out.trans (hb4.mono HX3.out.size)).mono HB2.out.size))
    clear hb4 a0 a1 a2 a3 a4 a5
    go_wp2
    go_ret
    exact ⟨rfl, HX4.out⟩
  | true =>
    obtain ⟨hok, s, hs1, hs2, hs3, hs4, hs5, hs6⟩ := HPU.out hb
    rw [hb] at HI HS
    rw [hs4] at HI HS
    have hnc := HNC.out hok
    have hbp : buildP 200 200 n = some [s] := by
      unfold bldV at hs1
      rwa [if_pos ⟨hok, by decide, by decide⟩] at hs1
    have hsz : (⟨s.toArray⟩ : ByteArray).size = s.length := by simp [ByteArray.size]
    have HRD : Hid (∀ (A : Option Addr) (c : Nat) (F : ByteArray) (W : World), Strs W A [F, (⟨s.toArray⟩ : ByteArray)] → F.data.toList = farW 0 1 → n.kind ≠ 0 → s.length ≤ 1592 → nc ≤ 1000 → Calls Tryz.prog 15 #[.slice A 2 c, .int .i64 1000] W (ReadQ n W)) := Lib.hid fun A c F W hW hF hk hl hle => far_read A c F ⟨s.toArray⟩ W n hW hF (by rw [hsz]; exact hs3) (by rw [hsz]; exact hl) hok hk (by omega) hbp
    have HSZ : Hid ((⟨s.toArray⟩ : ByteArray).size ≤ maxLen) := Lib.hid (by simp [ByteArray.size, maxLen]; omega)
    have HLE : Hid ((((⟨s.toArray⟩ : ByteArray).size : Nat) : Int) = (s.length : Int)) := Lib.hid (by rw [hsz])
    obtain ⟨sl, hsl⟩ : ∃ sl : Nat, s.length = sl := ⟨_, rfl⟩
    rw [hsl] at HRD HLE
    have hm8 : sl % 8 = 0 := by omega
    generalize hSB : (⟨s.toArray⟩ : ByteArray) = SB at *
    clear hok hs1 hs2 hs3 hs4 hs5 hs6 hnc HPU HNC hb hSB hbp hsz hsl
    refine (HI.out _ (Below.refl _ _)).mono ?_
    rintro e w3 ⟨rfl, hb3⟩
    have HX3 := Lib.hid hb3
    clear hb3 a0 a1 a2 a3 a4 a5
    obtain ⟨a0, a1, a2, a3, a4, a5⟩ := cells6 ((HX3.out.block _ HLT.out).trans HR2.out)
    go_wp2_with fail
    refine (HS.out _ HX3.out).mono ?_
    rintro e w4 ⟨rfl, hb4⟩
    have HX4 := Lib.hid (HX3.out.trans (hb4.mono HX3.out.size))
    clear hb4 a0 a1 a2 a3 a4 a5
    obtain ⟨a0, a1, a2, a3, a4, a5⟩ := cells6 ((HX4.out.block _ HLT.out).trans HR2.out)
    by_cases hk : n.kind = 0
    · have hkb : (n.kind == 0) = true := by rw [hk]; rfl
      have HX9 := Lib.hid (HB2.out.trans (HX4.out.mono HB2.out.size))
      go_wp2
      go_ret
      exact ⟨rfl, HX9.out⟩
    have hkb : (n.kind == 0) = false := by simpa using hk
    go_wp2_with fail
    refine (HC.out _ HX4.out).mono ?_
    rintro e w5 ⟨rfl, hb5⟩
    have HX5 := Lib.hid (HX4.out.trans (hb5.mono HX4.out.size))
    clear hb5 a0 a1 a2 a3 a4 a5
    by_cases hle : nc ≤ 1000
    · have hgt : ¬ (nc : Int) > 1000 := by omega
      by_cases hl : sl ≤ 1592
      · have hsg : ¬ ((SB.size : Nat) : Int) ≥ 1600 := by rw [HLE.out]; omega
        obtain ⟨a0, a1, a2, a3, a4, a5⟩ := cells6 ((HX5.out.block _ HLT.out).trans HR2.out)
        have HPP := Lib.hid (implPointPut_any 3 0 0 0 0 0 1 false w5)
        rw [far_bytes] at HPP
        have hFF : (⟨(farW 0 1).toArray⟩ : ByteArray).data.toList = farW 0 1 := by simp
        have hFS : (⟨(farW 0 1).toArray⟩ : ByteArray).size ≤ maxLen := by decide
        generalize (⟨(farW 0 1).toArray⟩ : ByteArray) = F at *
        have HF1 := Lib.hid hFF
        have HF2 := Lib.hid hFS
        clear hFF hFS
        go_wp2_with fail
        refine HPP.out.mono ?_
        rintro e w5' ⟨rfl, hb5'⟩
        have HX5' := Lib.hid (HX5.out.trans (hb5'.mono HX5.out.size))
        clear hb5' a0 a1 a2 a3 a4 a5
        have HRW := Lib.hid (HRD.out (some ⟨w5'.heap.size, 0, none⟩) 2 F _ (strs_two w5' F SB HF2.out HSZ.out) HF1.out hk hl hle)
        unfold ReadQ at HRW
        go_wp2_with fail
        have hba := HX5'.out.alloc HX5'.out.size (.cells #[.string F, .string SB] 9)
        refine HRW.out.mono ?_
        rintro e w6 ⟨hy, rfl, hny, hb6⟩
        have hX6 := hba.trans (hb6.mono hba.size)
        have hyx := (Below.refl w6.heap.size w6).alloc (Nat.le_refl _) (.cells #[.int .i64 n.kind, .string n.data, .slice hy.A n.ptrs.length hy.a, .int .i64 n.size, .int .i64 n.count, .slice hy.B n.items.length hy.b] nodeT)
        have y6 := heap_alloc_new w6 (.cells #[.int .i64 n.kind, .string n.data, .slice hy.A n.ptrs.length hy.a, .int .i64 n.size, .int .i64 n.count, .slice hy.B n.items.length hy.b] nodeT)
        have HX6 := Lib.hid (hX6.trans (hyx.mono hX6.size))
        have HNY := Lib.hid (hny.below hyx)
        obtain ⟨b0, b1, b2, b3, b4, b5⟩ := cells6 y6
        clear hba hb6 hX6 hyx y6 hny HRW
        obtain ⟨a0, a1, a2, a3, a4, a5⟩ := cells6 ((HX6.out.block _ HLT.out).trans HR2.out)
        have HQ := Lib.hid (qnN_any 16 18 n n hy h1 _ _ _ true HNY.out (HN2.out.below HX6.out) (iff_true_of rfl))
        go_wp2_with fail
        refine HQ.out.mono ?_
        rintro e w8 ⟨rfl, hb8⟩
        have HX9 := Lib.hid (HB2.out.trans ((HX6.out.trans (hb8.mono HX6.out.size)).mono HB2.out.size))
        clear a0 a1 a2 a3 a4 a5 b0 b1 b2 b3 b4 b5 hb8 HQ
        go_wp2
        go_ret
        exact ⟨rfl, HX9.out⟩
      · have hsg : ((SB.size : Nat) : Int) ≥ 1600 := by rw [HLE.out]; omega
        have HX9 := Lib.hid (HB2.out.trans (HX5.out.mono HB2.out.size))
        go_wp2
        go_ret
        exact ⟨rfl, HX9.out⟩
    · have hgt : (nc : Int) > 1000 := by omega
      have HX9 := Lib.hid (HB2.out.trans (HX5.out.mono HB2.out.size))
      go_wp2
      go_ret
      exact ⟨rfl, HX9.out⟩
end Go.Proofs.YtlbfffokkhccaaaGreatDoor
