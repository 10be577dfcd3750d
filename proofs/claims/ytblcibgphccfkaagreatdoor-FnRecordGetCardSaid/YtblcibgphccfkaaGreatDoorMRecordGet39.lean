/- Texts of the proof of the law FnRecordGet, side by side: part 39. -/
import Derived.Test.YtblcibgphccfkaaGreatDoorRows
import Derived.Lib.LaidTab
import Derived.Stop.LaidErr
import Derived.MakeChecks
import Derived.Test.YtblcibgphccfkaaGreatDoorMRecordGet38
set_option maxHeartbeats 8000000
set_option maxRecDepth 100000
namespace Go.Proofs.YtblcibgphccfkaaGreatDoor
open Go.RowKit
theorem nd_eq (n n' : Nd) : n = n' ↔ n.kind = n'.kind ∧ n.data = n'.data ∧ n.size = n'.size ∧ n.count = n'.count ∧ n.ptrs = n'.ptrs ∧ n.items = n'.items := by
 cases n
 cases n'
 simp only [Nd.mk.injEq, Nd.kind, Nd.data, Nd.size, Nd.count, Nd.ptrs, Nd.items]
 exact ⟨fun h => ⟨h.1, h.2.1, h.2.2.2.1, h.2.2.2.2.1, h.2.2.1, h.2.2.2.2.2⟩, fun h => ⟨h.1, h.2.1, h.2.2.2.2.1, h.2.2.1, h.2.2.2.1, h.2.2.2.2.2⟩⟩
theorem bool_no {b : Bool} {p : Prop} (h : b = true ↔ p) (hp : ¬ p) : b = false := by cases b; rfl; exact absurd (h.1 rfl) hp
theorem iff_true_of {p : Prop} (hp : p) : (true = true ↔ p) := ⟨fun _ => hp, fun _ => rfl⟩
theorem iff_false_of {p : Prop} (hp : ¬ p) : (false = true ↔ p) := ⟨fun h => (by cases h), fun h => absurd h hp⟩
def QnS (m : Nat) : Prop := ∀ (m' : Nat) (A B : Option Addr) (c c' : Nat) (l l' : List Nd) (w : World) (S S' : Nat → Prop) (b : Bool), NdsAt w S m A l → NdsAt w S' m' B l' → (b = true ↔ l = l') →
 Calls Tryz.prog 54 #[.slice A l.length c, .slice B l'.length c'] w fun e w' => e = .returned (.bool b) ∧ Below w.heap.size w w'
def QnN (m : Nat) : Prop := ∀ (m' : Nat) (n n' : Nd) (h h' : Hd) (w : World) (S S' : Nat → Prop) (b : Bool), NdAt w S m n h → NdAt w S' m' n' h' → (b = true ↔ n = n') →
 Calls Tryz.prog 16 #[.agg #[.int .i64 n.kind, .string n.data, .slice h.A n.ptrs.length h.a, .int .i64 n.size, .int .i64 n.count, .slice h.B n.items.length h.b], .agg #[.int .i64 n'.kind, .string n'.data, .slice h'.A n'.ptrs.length h'.a, .int .i64 n'.size, .int .i64 n'.count, .slice h'.B n'.items.length h'.b]] w fun e w' => e = .returned (.bool b) ∧ Below w.heap.size w w'
theorem qnN_of (m : Nat) (hS : QnS m) : QnN m := by
 intro m' n n' h h' w S S' b hn hn' hb
 have HS := Lib.hid hS
 have hba : Below w.heap.size w ((w.alloc (.cells #[.int .i64 n.kind, .string n.data, .slice h.A n.ptrs.length h.a, .int .i64 n.size, .int .i64 n.count, .slice h.B n.items.length h.b] nodeT)).alloc (.cells #[.int .i64 n'.kind, .string n'.data, .slice h'.A n'.ptrs.length h'.a, .int .i64 n'.size, .int .i64 n'.count, .slice h'.B n'.items.length h'.b] nodeT)) := ((Below.refl _ _).alloc (Nat.le_refl _) _).alloc (by simp) _
 have k1 : ((w.alloc (.cells #[.int .i64 n.kind, .string n.data, .slice h.A n.ptrs.length h.a, .int .i64 n.size, .int .i64 n.count, .slice h.B n.items.length h.b] nodeT)).alloc (.cells #[.int .i64 n'.kind, .string n'.data, .slice h'.A n'.ptrs.length h'.a, .int .i64 n'.size, .int .i64 n'.count, .slice h'.B n'.items.length h'.b] nodeT)).heap[w.heap.size]? = some (.cells #[.int .i64 n.kind, .string n.data, .slice h.A n.ptrs.length h.a, .int .i64 n.size, .int .i64 n.count, .slice h.B n.items.length h.b] nodeT (0, 0)) := (Below.heap_alloc _ _ _ (by simp)).trans (heap_alloc_new w _)
 have k2 : ((w.alloc (.cells #[.int .i64 n.kind, .string n.data, .slice h.A n.ptrs.length h.a, .int .i64 n.size, .int .i64 n.count, .slice h.B n.items.length h.b] nodeT)).alloc (.cells #[.int .i64 n'.kind, .string n'.data, .slice h'.A n'.ptrs.length h'.a, .int .i64 n'.size, .int .i64 n'.count, .slice h'.B n'.items.length h'.b] nodeT)).heap[w.heap.size + 1]? = some (.cells #[.int .i64 n'.kind, .string n'.data, .slice h'.A n'.ptrs.length h'.a, .int .i64 n'.size, .int .i64 n'.count, .slice h'.B n'.items.length h'.b] nodeT (0, 0)) := by have := heap_alloc_new (w.alloc (.cells #[.int .i64 n.kind, .string n.data, .slice h.A n.ptrs.length h.a, .int .i64 n.size, .int .i64 n.count, .slice h.B n.items.length h.b] nodeT)) (.cells #[.int .i64 n'.kind, .string n'.data, .slice h'.A n'.ptrs.length h'.a, .int .i64 n'.size, .int .i64 n'.count, .slice h'.B n'.items.length h'.b] nodeT); rwa [show (w.alloc (.cells #[.int .i64 n.kind, .string n.data, .slice h.A n.ptrs.length h.a, .int .i64 n.size, .int .i64 n.count, .slice h.B n.items.length h.b] nodeT)).heap.size = w.heap.size + 1 by simp] at this
 have HN := Lib.hid (hn.below hba)
 have HN' := Lib.hid (hn'.below hba)
 have hts : ((w.alloc (.cells #[.int .i64 n.kind, .string n.data, .slice h.A n.ptrs.length h.a, .int .i64 n.size, .int .i64 n.count, .slice h.B n.items.length h.b] nodeT)).alloc (.cells #[.int .i64 n'.kind, .string n'.data, .slice h'.A n'.ptrs.length h'.a, .int .i64 n'.size, .int .i64 n'.count, .slice h'.B n'.items.length h'.b] nodeT)).heap.size = w.heap.size + 2 := by simp
 have HBA := Lib.hid hba
 have HK1 := Lib.hid k1
 have HK2 := Lib.hid k2
 have HTS := Lib.hid hts
 have HQ := Lib.hid (hb.trans (nd_eq n n'))
 clear hS hn hn' hba k1 k2 hts hb
 by_cases hx : n.kind = n'.kind
 case neg =>
  have hxb : (n.kind == n'.kind) = false := by simpa using hx
  obtain rfl : b = false := by
   cases b
   · rfl
   · exact absurd (HQ.out.1 rfl).1 hx
  clear hx
  go_enter Tryz.func16, Tryz.ntmps16
  go_wp2
  go_ret
  exact ⟨rfl, HBA.out⟩
 have h1b : (n.kind == n'.kind) = true := by simpa using hx
 have H1 := Lib.hid hx
 clear hx
 by_cases hx : n.data = n'.data
 case neg =>
  have hxb : (n.data.toList == n'.data.toList) = false := by rw [toList_eq]; exact decide_eq_false hx
  obtain rfl : b = false := by
   cases b
   · rfl
   · exact absurd (HQ.out.1 rfl).2.1 hx
  clear hx
  go_enter Tryz.func16, Tryz.ntmps16
  go_wp2
  go_ret
  exact ⟨rfl, HBA.out⟩
 have h2b : (n.data.toList == n'.data.toList) = true := by rw [toList_eq]; exact decide_eq_true hx
 have H2 := Lib.hid hx
 clear hx
 by_cases hx : n.size = n'.size
 case neg =>
  have hxb : (n.size == n'.size) = false := by simpa using hx
  obtain rfl : b = false := by
   cases b
   · rfl
   · exact absurd (HQ.out.1 rfl).2.2.1 hx
  clear hx
  go_enter Tryz.func16, Tryz.ntmps16
  go_wp2
  go_ret
  exact ⟨rfl, HBA.out⟩
 have h3b : (n.size == n'.size) = true := by simpa using hx
 have H3 := Lib.hid hx
 clear hx
 by_cases hx : n.count = n'.count
 case neg =>
  have hxb : (n.count == n'.count) = false := by simpa using hx
  obtain rfl : b = false := by
   cases b
   · rfl
   · exact absurd (HQ.out.1 rfl).2.2.2.1 hx
  clear hx
  go_enter Tryz.func16, Tryz.ntmps16
  go_wp2
  go_ret
  exact ⟨rfl, HBA.out⟩
 have h4b : (n.count == n'.count) = true := by simpa using hx
 have H4 := Lib.hid hx
 clear hx
 by_cases hx : n.ptrs = n'.ptrs
 case neg =>
  obtain rfl : b = false := by
   cases b
   · rfl
   · exact absurd (HQ.out.1 rfl).2.2.2.2.1 hx
  have HC := Lib.hid (HS.out m' h.A h'.A h.a h'.a n.ptrs n'.ptrs _ S S' false HN.out.2.1 HN'.out.2.1 (iff_false_of hx))
  clear hx
  go_enter Tryz.func16, Tryz.ntmps16
  go_wp2_with fail
  refine HC.out.mono ?_
  rintro e w1 ⟨rfl, hb1⟩
  have HB1 := Lib.hid (HBA.out.trans (hb1.mono HBA.out.size))
  clear hb1
  go_wp2
  go_ret
  exact ⟨rfl, HB1.out⟩
 have H5 := Lib.hid hx
 have HC := Lib.hid (HS.out m' h.A h'.A h.a h'.a n.ptrs n'.ptrs _ S S' true HN.out.2.1 HN'.out.2.1 (iff_true_of hx))
 have H6 : Hid (b = true ↔ n.items = n'.items) := Lib.hid ⟨fun h => (HQ.out.1 h).2.2.2.2.2, fun h => HQ.out.2 ⟨H1.out, H2.out, H3.out, H4.out, H5.out, h⟩⟩
 clear hx
 go_enter Tryz.func16, Tryz.ntmps16
 go_wp2_with fail
 generalize ((w.alloc (.cells #[.int .i64 n.kind, .string n.data, .slice h.A n.ptrs.length h.a, .int .i64 n.size, .int .i64 n.count, .slice h.B n.items.length h.b] nodeT)).alloc (.cells #[.int .i64 n'.kind, .string n'.data, .slice h'.A n'.ptrs.length h'.a, .int .i64 n'.size, .int .i64 n'.count, .slice h'.B n'.items.length h'.b] nodeT)) = W at *
 refine HC.out.mono ?_
 rintro e w1 ⟨rfl, hb1⟩
 have HB1 := Lib.hid hb1
 obtain ⟨a0, a1, a2, a3, a4, a5⟩ := cells6 ((hb1.block _ (by have := HTS.out; omega)).trans HK1.out)
 obtain ⟨b0, b1, b2, b3, b4, b5⟩ := cells6 ((hb1.block _ (by have := HTS.out; omega)).trans HK2.out)
 clear hb1
 go_wp2_with fail
 refine (HS.out m' h.B h'.B h.b h'.b n.items n'.items w1 S S' b (HN.out.below HB1.out).2.2 (HN'.out.below HB1.out).2.2 H6.out).mono ?_
 rintro e w2 ⟨rfl, hb2⟩
 have HB2 := Lib.hid (HBA.out.trans ((HB1.out.trans (hb2.mono HB1.out.size)).mono (by have := HTS.out; omega)))
 clear hb2
 go_wp2
 go_ret
 exact ⟨rfl, HB2.out⟩
theorem qnS_zero : QnS 0 := by
 intro m' A B c c' l l' w S S' b hl hl' hb
 obtain rfl := hl.zero
 have hlen := hl'.len
 unfold maxLen at hlen
 by_cases h0 : l'.length = 0
 · obtain rfl : b = true := hb.2 (List.eq_nil_of_length_eq_zero h0).symm
   rw [h0]
   clear hb hl hl' h0 hlen
   go_enter Tryz.func54, Tryz.ntmps54
   go_wp2
   go_loop [5] (fun i => i = .int .i64 0) (fun _ => 0)
   case atStart => rfl
   case round =>
    obtain rfl := hrel
    go_wp2
    go_ret
    exact ⟨rfl, Below.refl _ _⟩
 · obtain rfl : b = false := bool_no hb (fun e => h0 (by rw [← e]; rfl))
   have hxb : ((([] : List Nd).length : Int) != (l'.length : Int)) = true := by simp; omega
   clear hb hl hl'
   go_enter Tryz.func54, Tryz.ntmps54
   go_wp2
   go_ret
   exact ⟨rfl, Below.refl _ _⟩
theorem qnS_succ (m : Nat) (hN : QnN m) : QnS (m + 1) := by
 intro m' A B c c' l l' w S S' b h h' hb
 have hlm := h.len
 have hlm' := h'.len
 unfold maxLen at hlm hlm'
 by_cases hll : l'.length = l.length
 case neg =>
  obtain rfl : b = false := bool_no hb (fun e => hll (by rw [e]))
  have hxb : ((l.length : Int) != (l'.length : Int)) = true := by simp; omega
  clear hb h h' hN
  go_enter Tryz.func54, Tryz.ntmps54
  go_wp2
  go_ret
  exact ⟨rfl, Below.refl _ _⟩
 have HF := Lib.hid h
 have HG := Lib.hid (h'.mono (Nat.le_succ m'))
 have HN := Lib.hid hN
 have HQ := Lib.hid hb
 rw [hll]
 have HLL := Lib.hid hll
 clear h h' hN hb hll hlm'
 go_enter Tryz.func54, Tryz.ntmps54
 go_wp2
 go_loopw [5] (fun i wr => ∃ k : Nat, i = .int .i64 k ∧ k ≤ l.length ∧ Hid (Below w.heap.size w wr) ∧ Hid (∀ j, j < k → l[j]? = l'[j]?)) (fun i _ => l.length - (intOf i).toNat)
 case atStart => exact ⟨0, rfl, by omega, Lib.hid (Below.refl _ _), Lib.hid (fun j hj => by omega)⟩
 case round =>
  obtain ⟨k, rfl, hk, HB, HE⟩ := hrel
  by_cases hlt : k < l.length
  · have hlt' : k < l'.length := by have := HLL.out; omega
    obtain ⟨x, hx, rfl, cx, nx⟩ := (HF.out.below HB.out).at_ hlt
    obtain ⟨y, hy, rfl, cy, ny⟩ := (HG.out.below HB.out).at_ hlt'
    have HEQ : Hid (l[k] = l'[k] → l[k]? = l'[k]?) := Lib.hid (fun e => by rw [List.getElem?_eq_getElem hlt, List.getElem?_eq_getElem hlt', e])
    have HNE : Hid (l[k] ≠ l'[k] → l ≠ l') := Lib.hid (fun e hl => e (by subst hl; rfl))
    generalize l[k] = n at cx nx HEQ HNE
    generalize l'[k] = n' at cy ny HEQ HNE
    have hd1 : Below wr.heap.size wr wr.drew := ⟨rfl, rfl, rfl, Nat.le_refl _, fun _ _ => rfl⟩
    have hx1 := cx.lt
    have hx2 := cy.lt
    obtain ⟨c0, c1, c2, c3, c4, c5⟩ := cx
    obtain ⟨d0, d1, d2, d3, d4, d5⟩ := cy
    have hk2 : (k : Int) < (l.length : Int) := by omega
    have hs := HB.out.size
    by_cases hnn : n = n'
    · have HP := Lib.hid (HN.out m' n n' hx hy wr.drew S S' true (nx.below hd1) (ny.below hd1) (iff_true_of hnn))
      have HP0 := Lib.hid (HN.out m' n n' hx hy wr S S' true nx ny (iff_true_of hnn))
      have HE1 := Lib.hid (HEQ.out hnn)
      clear nx ny hnn HEQ HNE
      go_wp2
      go_region_with (go_at_call 16; refine HP.out.mono ?_; rintro e w2 ⟨rfl, hb2⟩)
      all_goals
       have HB2 := Lib.hid (HB.out.trans ((show Below w.heap.size wr wr.drew from ⟨rfl, rfl, rfl, Nat.le_refl _, fun _ _ => rfl⟩).trans (hb2.mono (by simpa using hs))))
       clear hb2
       go_wp2
       go_roundw
       case rel =>
        refine ⟨k + 1, by go_num, by omega, HB2, Lib.hid fun j hj => ?_⟩
        rcases Nat.lt_or_ge j k with hl | hge
        · exact HE.out j hl
        · obtain rfl : j = k := by omega
          exact HE1.out
       case measure => simp [intOf]; omega
    · have HP := Lib.hid (HN.out m' n n' hx hy wr.drew S S' false (nx.below hd1) (ny.below hd1) (iff_false_of hnn))
      obtain rfl : b = false := bool_no HQ.out (HNE.out hnn)
      clear nx ny hnn HEQ HNE
      go_wp2
      go_region_with (go_at_call 16; refine HP.out.mono ?_; rintro e w2 ⟨rfl, hb2⟩)
      all_goals
       have HB2 := Lib.hid (HB.out.trans ((show Below w.heap.size wr wr.drew from ⟨rfl, rfl, rfl, Nat.le_refl _, fun _ _ => rfl⟩).trans (hb2.mono (by simpa using hs))))
       clear hb2
       go_wp2
       go_ret
       exact ⟨rfl, HB2.out⟩
  · obtain rfl : k = l.length := by omega
    obtain rfl : b = true := HQ.out.2 (List.ext_getElem? fun j => by
     rcases Nat.lt_or_ge j l.length with hl | hge
     · exact HE.out j hl
     · rw [List.getElem?_eq_none hge, List.getElem?_eq_none (by have := HLL.out; omega)])
    go_wp2
    go_ret
    exact ⟨rfl, HB.out⟩
theorem qnS_any : ∀ m, QnS m
 | 0 => qnS_zero
 | m + 1 => qnS_succ m (qnN_of m (qnS_any m))
theorem qnN_any (m : Nat) : QnN m := qnN_of m (qnS_any m)
open Go.RowKit Go.Deep
theorem qnVal_s (m m' : Nat) (x : Int) (y : Nd) (h1 h2 : Hd) (w : World) (S S' : Nat → Prop) (a : NdAt w S m y h1) (b : NdAt w S' m' y h2) :
 Calls Tryz.prog 10 #[.agg #[.int .i64 x, .int .i64 y.kind, .string y.data, .slice h1.A y.ptrs.length h1.a, .int .i64 y.size, .int .i64 y.count, .slice h1.B y.items.length h1.b], .agg #[.int .i64 x, .int .i64 y.kind, .string y.data, .slice h2.A y.ptrs.length h2.a, .int .i64 y.size, .int .i64 y.count, .slice h2.B y.items.length h2.b]] w fun e w' => e = .returned (.bool true) ∧ Below w.heap.size w w' := by
 have q0 := al_first w (.cells #[.int .i64 x, .int .i64 y.kind, .string y.data, .slice h1.A y.ptrs.length h1.a, .int .i64 y.size, .int .i64 y.count, .slice h1.B y.items.length h1.b] valT)
 have q1 := al_next q0 (.cells #[.int .i64 x, .int .i64 y.kind, .string y.data, .slice h2.A y.ptrs.length h2.a, .int .i64 y.size, .int .i64 y.count, .slice h2.B y.items.length h2.b] valT)
 have r0 := heap_alloc_keep (heap_alloc_new w (.cells #[.int .i64 x, .int .i64 y.kind, .string y.data, .slice h1.A y.ptrs.length h1.a, .int .i64 y.size, .int .i64 y.count, .slice h1.B y.items.length h1.b] valT)) (.cells #[.int .i64 x, .int .i64 y.kind, .string y.data, .slice h2.A y.ptrs.length h2.a, .int .i64 y.size, .int .i64 y.count, .slice h2.B y.items.length h2.b] valT)
 have r1 := al_row q0 #[.int .i64 x, .int .i64 y.kind, .string y.data, .slice h2.A y.ptrs.length h2.a, .int .i64 y.size, .int .i64 y.count, .slice h2.B y.items.length h2.b] valT
 have HE := Lib.hid (fun (W : World) (hW : Below w.heap.size w W) => qnN_any m m' y y h1 h2 W S S' true (a.below hW) (b.below hW) ⟨fun _ => rfl, fun _ => rfl⟩)
 have HB0 := Lib.hid q1.2
 obtain ⟨a0, a1, a2, a3, a4, a5, a6⟩ := cellsV r0
 obtain ⟨b0, b1, b2, b3, b4, b5, b6⟩ := cellsV r1
 clear q1 q0 r0 r1 a b
 go_enter Tryz.func10, Tryz.ntmps10
 go_wp2_with fail
 refine (HE.out _ HB0.out).mono ?_
 rintro e w1 ⟨rfl, hb1⟩
 have HB1 := Lib.hid (HB0.out.trans (hb1.mono HB0.out.size))
 clear hb1 a0 a1 a2 a3 a4 a5 a6 b0 b1 b2 b3 b4 b5 b6
 go_wp2
 go_ret
 exact ⟨rfl, HB1.out⟩
theorem walkRecordGet (w : World) (a : Option Addr) (len cap : Nat) (h : Arg w a len cap) (ht : Tab w) :
 Calls Tryz.prog 3 #[.slice a len cap] w fun e w' => e = .returned (.bool true) ∧ Below w.heap.size w w' := by
 have h1w : 1 < w.heap.size := World.block_lt_of_cell? w _ ht.t0
 have hlm := h.1.1
 unfold maxLen at hlm
 by_cases hbig : 1048576 < len
 · clear ht h
   go_enter Tryz.func3, Tryz.ntmps3
   go_wp2
   go_ret
   exact ⟨rfl, Below.refl _ _⟩
 have HD := Lib.hid (drawRecordGet_any a len cap w h)
 have HIA := Lib.hid (fun (W : World) (hW : Below w.heap.size w W) (A : Option Addr) (c : Nat) (l : List Fld) (m : Nat) (n : Nd) (g : Hd) (S : Nat → Prop) (i : Int) (hl : Flds W A l) (hll : l.length ≤ 10000000) (hc : l.length ≤ c) (hn : NdAt W S m n g) (htn : totN m n ≤ 2000000) => implRecordGet_a A c l m n g W S (ht.below hW h1w) (by have := hW.size; omega) hl hll hc hn htn i)
 have HSA := Lib.hid (fun (W : World) (hW : Below w.heap.size w W) (A : Option Addr) (c : Nat) (l : List Fld) (m : Nat) (n : Nd) (g : Hd) (S : Nat → Prop) (i : Int) (hl : Flds W A l) (hll : l.length ≤ 10000000) (hn : NdAt W S m n g) (htn : totN m n ≤ 2000000) => specRecordGet_a A c l m n g W S (by have := hW.size; omega) hl hll hn htn i)
 have HLY := Lib.hid (fun (W : World) (hW : Below w.heap.size w W) (A : Option Addr) (c : Nat) (l : List Fld) (hl : Flds W A l) (hll : l.length ≤ 10000000) => implLayoutOf_any A c l W (ht.below hW h1w) (by have := hW.size; omega) hl hll)
 clear ht h h1w
 unfold DrawRG at HD
 unfold LayP layV at HLY
 go_enter Tryz.func3, Tryz.ntmps3
 go_wp2_with fail
 refine HD.out.mono ?_
 rintro e w1 ⟨X, c, l, m, n, hd, i, rfl, hl13, hlc, hel, hg, hi, hfl, hn, htn, hb1⟩
 have hba : Below w1.heap.size w1 (w1.alloc (.cells #[.int .i64 n.kind, .string n.data, .slice hd.A n.ptrs.length hd.a, .int .i64 n.size, .int .i64 n.count, .slice hd.B n.items.length hd.b] nodeT)) := (Below.refl _ _).alloc (Nat.le_refl _) _
 have HB := Lib.hid (hb1.trans (hba.mono hb1.size))
 have HN := Lib.hid (heap_alloc_new w1 (.cells #[.int .i64 n.kind, .string n.data, .slice hd.A n.ptrs.length hd.a, .int .i64 n.size, .int .i64 n.count, .slice hd.B n.items.length hd.b] nodeT))
 have HF := Lib.hid (hfl.below hba)
 have HND := Lib.hid (hn.below hba)
 have HEL := Lib.hid hel
 have HLL : Hid (l.length ≤ 10000000 ∧ l.length ≤ c ∧ l.length ≤ 13) := Lib.hid ⟨by omega, hlc, hl13⟩
 have HIN := Lib.hid (fun (W : World) (hW : Below w.heap.size w W) (hf : Flds W (some X) l) (hn : NdAt W Any m n hd) => HIA.out W hW (some X) c l m n hd Any i hf HLL.out.1 HLL.out.2.1 hn htn)
 have HSN := Lib.hid (fun (W : World) (hW : Below w.heap.size w W) (hf : Flds W (some X) l) (hn : NdAt W Any m n hd) => HSA.out W hW (some X) c l m n hd Any i hf HLL.out.1 hn htn)
 obtain ⟨x, hx⟩ : ∃ x, rgN l n i = x := ⟨_, rfl⟩
 obtain ⟨y, hy⟩ : ∃ y, rgY l n i = y := ⟨_, rfl⟩
 obtain ⟨ok, hok⟩ : ∃ ok, rgB l n i = ok := ⟨_, rfl⟩
 rw [hx, hy, hok] at HIN HSN
 clear hx hy hok hba hn hfl hel htn hb1 hg
 unfold NewVal at HIN HSN
 obtain ⟨n0, n1, n2, n3, n4, n5⟩ := cells6 HN.out
 go_wp2_with fail
 generalize w1.alloc (.cells #[.int .i64 n.kind, .string n.data, .slice hd.A n.ptrs.length hd.a, .int .i64 n.size, .int .i64 n.count, .slice hd.B n.items.length hd.b] nodeT) = W1 at *
 generalize w1.heap.size = nb at *
 clear n0 n1 n2 n3 n4 n5
 refine (HIN.out _ HB.out HF.out HND.out).mono ?_
 rintro e w2 ⟨h1, bs1, rfl, ho1, -, -, hb2⟩
 have hba : Below w2.heap.size w2 (w2.alloc (.cells #[.int .i64 x, .int .i64 y.kind, .string y.data, .slice h1.A y.ptrs.length h1.a, .int .i64 y.size, .int .i64 y.count, .slice h1.B y.items.length h1.b] valT)) := (Below.refl _ _).alloc (Nat.le_refl _) _
 have hbb : Below W1.heap.size W1 (w2.alloc (.cells #[.int .i64 x, .int .i64 y.kind, .string y.data, .slice h1.A y.ptrs.length h1.a, .int .i64 y.size, .int .i64 y.count, .slice h1.B y.items.length h1.b] valT)) := hb2.trans (hba.mono hb2.size)
 have HV := Lib.hid (heap_alloc_new w2 (.cells #[.int .i64 x, .int .i64 y.kind, .string y.data, .slice h1.A y.ptrs.length h1.a, .int .i64 y.size, .int .i64 y.count, .slice h1.B y.items.length h1.b] valT))
 have HO1 := Lib.hid (ho1.below hba)
 replace HN := Lib.hid ((hbb.block _ (row_lt HN.out)).trans HN.out)
 replace HF := Lib.hid (HF.out.below hbb)
 replace HND := Lib.hid (HND.out.below hbb)
 replace HB := Lib.hid (HB.out.trans (hbb.mono HB.out.size))
 clear hba hbb ho1 hb2
 obtain ⟨n0, n1, n2, n3, n4, n5⟩ := cells6 HN.out
 go_wp2_with fail
 generalize w2.alloc (.cells #[.int .i64 x, .int .i64 y.kind, .string y.data, .slice h1.A y.ptrs.length h1.a, .int .i64 y.size, .int .i64 y.count, .slice h1.B y.items.length h1.b] valT) = W2 at *
 generalize w2.heap.size = vb at *
 clear n0 n1 n2 n3 n4 n5
 refine (HSN.out _ HB.out HF.out HND.out).mono ?_
 rintro e w3 ⟨h2, bs2, rfl, ho2, -, -, hb3⟩
 have hba : Below w3.heap.size w3 (w3.alloc (.cells #[.int .i64 x, .int .i64 y.kind, .string y.data, .slice h2.A y.ptrs.length h2.a, .int .i64 y.size, .int .i64 y.count, .slice h2.B y.items.length h2.b] valT)) := (Below.refl _ _).alloc (Nat.le_refl _) _
 have hbb : Below W2.heap.size W2 (w3.alloc (.cells #[.int .i64 x, .int .i64 y.kind, .string y.data, .slice h2.A y.ptrs.length h2.a, .int .i64 y.size, .int .i64 y.count, .slice h2.B y.items.length h2.b] valT)) := hb3.trans (hba.mono hb3.size)
 have HU := Lib.hid (heap_alloc_new w3 (.cells #[.int .i64 x, .int .i64 y.kind, .string y.data, .slice h2.A y.ptrs.length h2.a, .int .i64 y.size, .int .i64 y.count, .slice h2.B y.items.length h2.b] valT))
 have HO2 := Lib.hid (ho2.below hba)
 replace HN := Lib.hid ((hbb.block _ (row_lt HN.out)).trans HN.out)
 replace HF := Lib.hid (HF.out.below hbb)
 replace HND := Lib.hid (HND.out.below hbb)
 replace HV := Lib.hid ((hbb.block _ (row_lt HV.out)).trans HV.out)
 replace HO1 := Lib.hid (HO1.out.below hbb)
 replace HB := Lib.hid (HB.out.trans (hbb.mono HB.out.size))
 clear hba hbb ho2 hb3
 have hdn : (ok != ok) = false := by simp
 have hdd : (ok == ok) = true := by simp
 obtain ⟨v0, v1, v2, v3, v4, v5, v6⟩ := cellsV HV.out
 obtain ⟨u0, u1, u2, u3, u4, u5, u6⟩ := cellsV HU.out
 go_wp2_with fail
 generalize w3.alloc (.cells #[.int .i64 x, .int .i64 y.kind, .string y.data, .slice h2.A y.ptrs.length h2.a, .int .i64 y.size, .int .i64 y.count, .slice h2.B y.items.length h2.b] valT) = W3 at *
 generalize w3.heap.size = ub at *
 refine (qnVal_s (m + 1) (m + 1) x y h1 h2 _ _ _ HO1.out.nd HO2.out.nd).mono ?_
 rintro e w4 ⟨rfl, hb4⟩
 clear v0 v1 v2 v3 v4 v5 v6 u0 u1 u2 u3 u4 u5 u6
 replace HN := Lib.hid ((hb4.block _ (row_lt HN.out)).trans HN.out)
 replace HF := Lib.hid (HF.out.below hb4)
 replace HND := Lib.hid (HND.out.below hb4)
 replace HV := Lib.hid ((hb4.block _ (row_lt HV.out)).trans HV.out)
 replace HO1 := Lib.hid (HO1.out.below hb4)
 replace HU := Lib.hid ((hb4.block _ (row_lt HU.out)).trans HU.out)
 replace HO2 := Lib.hid (HO2.out.below hb4)
 replace HB := Lib.hid (HB.out.trans (hb4.mono HB.out.size))
 clear hb4
 go_wp2_with fail
 refine (specFieldsOk_any (some X) c l _ HF.out HLL.out.1).mono ?_
 rintro e w5 ⟨rfl, hb5⟩
 replace HN := Lib.hid ((hb5.block _ (row_lt HN.out)).trans HN.out)
 replace HF := Lib.hid (HF.out.below hb5)
 replace HND := Lib.hid (HND.out.below hb5)
 replace HV := Lib.hid ((hb5.block _ (row_lt HV.out)).trans HV.out)
 replace HO1 := Lib.hid (HO1.out.below hb5)
 replace HU := Lib.hid ((hb5.block _ (row_lt HU.out)).trans HU.out)
 replace HO2 := Lib.hid (HO2.out.below hb5)
 replace HB := Lib.hid (HB.out.trans (hb5.mono HB.out.size))
 clear hb5
 cases hfo : fldsOk l
 · obtain ⟨v0, v1, v2, v3, v4, v5, v6⟩ := cellsV HV.out
   obtain ⟨u0, u1, u2, u3, u4, u5, u6⟩ := cellsV HU.out
   go_wp2_with fail
   refine (qnVal_s (m + 1) (m + 1) x y h1 h2 _ _ _ HO1.out.nd HO2.out.nd).mono ?_
   rintro e w6 ⟨rfl, hb6⟩
   replace HB := Lib.hid (HB.out.trans (hb6.mono HB.out.size))
   clear v0 v1 v2 v3 v4 v5 v6 u0 u1 u2 u3 u4 u5 u6 hb6
   go_wp2
   go_ret
   exact ⟨rfl, HB.out⟩
 by_cases hi0 : i < 0
 · obtain ⟨v0, v1, v2, v3, v4, v5, v6⟩ := cellsV HV.out
   obtain ⟨u0, u1, u2, u3, u4, u5, u6⟩ := cellsV HU.out
   go_wp2_with fail
   refine (qnVal_s (m + 1) (m + 1) x y h1 h2 _ _ _ HO1.out.nd HO2.out.nd).mono ?_
   rintro e w6 ⟨rfl, hb6⟩
   replace HB := Lib.hid (HB.out.trans (hb6.mono HB.out.size))
   clear v0 v1 v2 v3 v4 v5 v6 u0 u1 u2 u3 u4 u5 u6 hb6
   go_wp2
   go_ret
   exact ⟨rfl, HB.out⟩
 by_cases hi1 : (l.length : Int) ≤ i
 · obtain ⟨v0, v1, v2, v3, v4, v5, v6⟩ := cellsV HV.out
   obtain ⟨u0, u1, u2, u3, u4, u5, u6⟩ := cellsV HU.out
   go_wp2_with fail
   refine (qnVal_s (m + 1) (m + 1) x y h1 h2 _ _ _ HO1.out.nd HO2.out.nd).mono ?_
   rintro e w6 ⟨rfl, hb6⟩
   replace HB := Lib.hid (HB.out.trans (hb6.mono HB.out.size))
   clear v0 v1 v2 v3 v4 v5 v6 u0 u1 u2 u3 u4 u5 u6 hb6
   go_wp2
   go_ret
   exact ⟨rfl, HB.out⟩
 have hge : 0 ≤ i := by omega
 have hlt : i < (l.length : Int) := by omega
 obtain ⟨k, rfl⟩ := Int.eq_ofNat_of_zero_le hge
 have hkl : k < l.length := by omega
 obtain ⟨r1, r2⟩ := rg_none hfo HEL.out hge hlt
 rw [Int.toNat_natCast] at r1 r2
 have HIZ := Lib.hid (fun (W : World) (hW : Below w.heap.size w W) (hf : Flds W (some X) l) => HIA.out W hW (some X) c l 0 noneNd ⟨none, 0, none, 0⟩ Any (k : Int) hf HLL.out.1 HLL.out.2.1 (noneN_at _ _ _) (by decide))
 unfold NewVal at HIZ
 go_wp2_with fail
 clear HN HND HV HU HO1 HO2 HIN HSN hdn hdd
 cases hrb : rgB l noneNd (k : Int)
 · obtain ⟨hcc, htg⟩ := r1 hrb
   obtain ⟨x3, hx3⟩ : ∃ x3, rgN l noneNd (k : Int) = x3 := ⟨_, rfl⟩
   obtain ⟨y3, hy3⟩ : ∃ y3, rgY l noneNd (k : Int) = y3 := ⟨_, rfl⟩
   rw [hrb, hx3, hy3] at HIZ
   clear r1 r2 hrb hx3 hy3
   refine (HIZ.out _ HB.out HF.out).mono ?_
   rintro e w6 ⟨h3, bs3, rfl, ho3, -, -, hb6⟩
   have hba : Below w6.heap.size w6 (w6.alloc (.cells #[.int .i64 x3, .int .i64 y3.kind, .string y3.data, .slice h3.A y3.ptrs.length h3.a, .int .i64 y3.size, .int .i64 y3.count, .slice h3.B y3.items.length h3.b] valT)) := (Below.refl _ _).alloc (Nat.le_refl _) _
   have hbb : Below w5.heap.size w5 (w6.alloc (.cells #[.int .i64 x3, .int .i64 y3.kind, .string y3.data, .slice h3.A y3.ptrs.length h3.a, .int .i64 y3.size, .int .i64 y3.count, .slice h3.B y3.items.length h3.b] valT)) := hb6.trans (hba.mono hb6.size)
   have HV := Lib.hid (heap_alloc_new w6 (.cells #[.int .i64 x3, .int .i64 y3.kind, .string y3.data, .slice h3.A y3.ptrs.length h3.a, .int .i64 y3.size, .int .i64 y3.count, .slice h3.B y3.items.length h3.b] valT))
   replace HF := Lib.hid (HF.out.below hbb)
   replace HB := Lib.hid (HB.out.trans (hbb.mono HB.out.size))
   clear hba hbb ho3 hb6
   go_wp2_with fail
   generalize w6.alloc (.cells #[.int .i64 x3, .int .i64 y3.kind, .string y3.data, .slice h3.A y3.ptrs.length h3.a, .int .i64 y3.size, .int .i64 y3.count, .slice h3.B y3.items.length h3.b] valT) = W6 at *
   generalize w6.heap.size = vb3 at *
   refine (HLY.out _ HB.out (some X) c l HF.out HLL.out.1).mono ?_
   rintro e w7 (⟨-, vL, rfl, hown, hb7⟩ | ⟨hno, -, -⟩)
   rotate_left
   · rw [hfo] at hno; cases hno
   obtain ⟨AL, cL, rfl⟩ := own_slice3 hown
   have hba : Below w7.heap.size w7 (w7.alloc (.cells #[.int .i64 ((layF l ps0).2.ls.words : Int), .int .i64 ((layF l ps0).2.ptrs : Int), .slice AL l.length cL, .int .i64 (layF l ps0).2.tag] 37)) := (Below.refl _ _).alloc (Nat.le_refl _) _
   have hbb : Below W6.heap.size W6 (w7.alloc (.cells #[.int .i64 ((layF l ps0).2.ls.words : Int), .int .i64 ((layF l ps0).2.ptrs : Int), .slice AL l.length cL, .int .i64 (layF l ps0).2.tag] 37)) := hb7.trans (hba.mono hb7.size)
   have HL := Lib.hid (heap_alloc_new w7 (.cells #[.int .i64 ((layF l ps0).2.ls.words : Int), .int .i64 ((layF l ps0).2.ptrs : Int), .slice AL l.length cL, .int .i64 (layF l ps0).2.tag] 37))
   replace HV := Lib.hid ((hbb.block _ (row_lt HV.out)).trans HV.out)
   replace HF := Lib.hid (HF.out.below hbb)
   replace HB := Lib.hid (HB.out.trans (hbb.mono HB.out.size))
   clear hba hbb hown hb7
   obtain ⟨xa, hxa0, hxb, hxa⟩ := HF.out.at2 hkl
   obtain rfl := Option.some.inj hxa0
   have hfk := fldK_at hkl
   generalize l[k] = fk at hxa hfk
   obtain ⟨z, fc, el⟩ := fk
   rw [hfk] at hcc
   obtain ⟨c0, c1, c2⟩ := hxa
   obtain ⟨L0, L1, L2, L3⟩ := cells4 HL.out
   obtain ⟨v0, v1, v2, v3, v4, v5, v6⟩ := cellsV HV.out
   dsimp only at hcc
   subst hcc
   have htg' : 0 ≤ (layF l ps0).2.tag := htg
   go_wp2
   go_ret
   exact ⟨rfl, HB.out⟩
 · obtain ⟨g1, g2⟩ := r2 hrb
   rw [hrb, g1, g2] at HIZ
   clear r1 r2 hrb g1 g2
   refine (HIZ.out _ HB.out HF.out).mono ?_
   rintro e w6 ⟨h3, bs3, rfl, ho3, -, -, hb6⟩
   have hba : Below w6.heap.size w6 (w6.alloc (.cells #[.int .i64 (fldK l k).els, .int .i64 noneNd.kind, .string noneNd.data, .slice h3.A noneNd.ptrs.length h3.a, .int .i64 noneNd.size, .int .i64 noneNd.count, .slice h3.B noneNd.items.length h3.b] valT)) := (Below.refl _ _).alloc (Nat.le_refl _) _
   have hbb : Below w5.heap.size w5 (w6.alloc (.cells #[.int .i64 (fldK l k).els, .int .i64 noneNd.kind, .string noneNd.data, .slice h3.A noneNd.ptrs.length h3.a, .int .i64 noneNd.size, .int .i64 noneNd.count, .slice h3.B noneNd.items.length h3.b] valT)) := hb6.trans (hba.mono hb6.size)
   have HV := Lib.hid (heap_alloc_new w6 (.cells #[.int .i64 (fldK l k).els, .int .i64 noneNd.kind, .string noneNd.data, .slice h3.A noneNd.ptrs.length h3.a, .int .i64 noneNd.size, .int .i64 noneNd.count, .slice h3.B noneNd.items.length h3.b] valT))
   replace HF := Lib.hid (HF.out.below hbb)
   replace HB := Lib.hid (HB.out.trans (hbb.mono HB.out.size))
   clear hba hbb ho3 hb6
   go_wp2_with fail
   generalize w6.alloc (.cells #[.int .i64 (fldK l k).els, .int .i64 noneNd.kind, .string noneNd.data, .slice h3.A noneNd.ptrs.length h3.a, .int .i64 noneNd.size, .int .i64 noneNd.count, .slice h3.B noneNd.items.length h3.b] valT) = W6 at *
   generalize w6.heap.size = vb3 at *
   refine (HLY.out _ HB.out (some X) c l HF.out HLL.out.1).mono ?_
   rintro e w7 (⟨-, vL, rfl, hown, hb7⟩ | ⟨hno, -, -⟩)
   rotate_left
   · rw [hfo] at hno; cases hno
   obtain ⟨AL, cL, rfl⟩ := own_slice3 hown
   have hba : Below w7.heap.size w7 (w7.alloc (.cells #[.int .i64 ((layF l ps0).2.ls.words : Int), .int .i64 ((layF l ps0).2.ptrs : Int), .slice AL l.length cL, .int .i64 (layF l ps0).2.tag] 37)) := (Below.refl _ _).alloc (Nat.le_refl _) _
   have hbb : Below W6.heap.size W6 (w7.alloc (.cells #[.int .i64 ((layF l ps0).2.ls.words : Int), .int .i64 ((layF l ps0).2.ptrs : Int), .slice AL l.length cL, .int .i64 (layF l ps0).2.tag] 37)) := hb7.trans (hba.mono hb7.size)
   have HL := Lib.hid (heap_alloc_new w7 (.cells #[.int .i64 ((layF l ps0).2.ls.words : Int), .int .i64 ((layF l ps0).2.ptrs : Int), .slice AL l.length cL, .int .i64 (layF l ps0).2.tag] 37))
   replace HV := Lib.hid ((hbb.block _ (row_lt HV.out)).trans HV.out)
   replace HF := Lib.hid (HF.out.below hbb)
   replace HB := Lib.hid (HB.out.trans (hbb.mono HB.out.size))
   clear hba hbb hown hb7
   obtain ⟨xa, hxa0, hxb, hxa⟩ := HF.out.at2 hkl
   obtain rfl := Option.some.inj hxa0
   have hfk := fldK_at hkl
   generalize l[k] = fk at hxa hfk
   obtain ⟨z, fc, el⟩ := fk
   rw [hfk] at HV
   obtain ⟨c0, c1, c2⟩ := hxa
   obtain ⟨L0, L1, L2, L3⟩ := cells4 HL.out
   obtain ⟨v0, v1, v2, v3, v4, v5, v6⟩ := cellsV HV.out
   go_wp2_with fail
   generalize w7.alloc (.cells #[.int .i64 ((layF l ps0).2.ls.words : Int), .int .i64 ((layF l ps0).2.ptrs : Int), .slice AL l.length cL, .int .i64 (layF l ps0).2.tag] 37) = W7 at *
   generalize w7.heap.size = lb at *
   have hk9 : (k : Int) < (l.length : Int) := by omega
   go_quiet (fail)
   go_wp2
   go_ret
   exact ⟨rfl, ⟨HB.out.os, HB.out.tape, HB.out.output, HB.out.size, HB.out.block⟩⟩
end Go.Proofs.YtblcibgphccfkaaGreatDoor
namespace Go.Proofs.YtblcibgphccfkaaGreatDoor
open Go.RowKit
def tab64 : List Int := [0, 1, 56, 2, 57, 49, 28, 3, 61, 58, 42, 50, 38, 29, 17, 4, 62, 47, 59, 36, 45, 43, 51, 22, 53, 39, 33, 30, 24, 18, 12, 5, 63, 55, 48, 27, 60, 41, 37, 16, 46, 35, 44, 21, 52, 32, 23, 11, 54, 26, 40, 15, 34, 20, 31, 10, 25, 14, 19, 9, 13, 8, 7, 6]
theorem tab64_eq : (Rows.laid_math_bits_deBruijn64tab (H := Unit)) = Lib.tabData .u8 tab64 := by rfl
theorem tab_of {W : World} (h : laidMetH Tryz.prog [("math/bits.deBruijn32tab", Rows.laid_math_bits_deBruijn32tab), ("math/bits.deBruijn64tab", Rows.laid_math_bits_deBruijn64tab)] W) : Tab W := by
 rw [MakeChecks.laidMetH_plain _ _ _ (by kernel_rfl)] at h
 have h1 := laidMet.tail h
 rw [tab64_eq] at h1
 have hT := Lib.tabIs_of_head (g := 1) (t := 189) (e := 5) (n := 64) (by kernel_rfl) (by kernel_rfl) Tryz.underlying189 Tryz.underlying5 (by kernel_rfl) (by kernel_rfl) h1
 have hg : Tryz.prog.globalNamed "math/bits.deBruijn64tab" = some 1 := by kernel_rfl
 exact ⟨hT.cell hg 0 (by decide), hT.cell hg 7 (by decide), hT.cell hg 15 (by decide), hT.cell hg 31 (by decide), hT.cell hg 63 (by decide)⟩
end Go.Proofs.YtblcibgphccfkaaGreatDoor
