/- Texts of the proof of the law FnCanonItems, side by side: part 20. -/
import Derived.Deep.RegionLaw
import Derived.Deep.RegionWith
import Derived.Test.YtfiiopchfmcjdaaMCanonItems00
import Derived.Test.YtfiiopchfmcjdaaMCanonItems01
import Derived.Test.YtfiiopchfmcjdaaMCanonItems02
import Derived.Test.YtfiiopchfmcjdaaMCanonItems03
import Derived.Test.YtfiiopchfmcjdaaMCanonItems04
import Derived.Test.YtfiiopchfmcjdaaMCanonItems05
import Derived.Test.YtfiiopchfmcjdaaMCanonItems06
import Derived.Test.YtfiiopchfmcjdaaMCanonItems07
import Derived.Test.YtfiiopchfmcjdaaMCanonItems08
import Derived.Test.YtfiiopchfmcjdaaMCanonItems09
import Derived.Test.YtfiiopchfmcjdaaMCanonItems10
import Derived.Test.YtfiiopchfmcjdaaMCanonItems11
import Derived.Test.YtfiiopchfmcjdaaMCanonItems12
import Derived.Test.YtfiiopchfmcjdaaMCanonItems13
import Derived.Test.YtfiiopchfmcjdaaMCanonItems14
import Derived.Test.YtfiiopchfmcjdaaMCanonItems15
import Derived.Test.YtfiiopchfmcjdaaMCanonItems16
import Derived.Test.YtfiiopchfmcjdaaMCanonItems17
import Derived.Test.YtfiiopchfmcjdaaMCanonItems18
import Derived.Test.YtfiiopchfmcjdaaMCanonItems19
/- The laws' qnNode: whether two nodes are the same. -/
namespace Go.Proofs.Ytfiiopchfmcjdaa
open Go.RowKit
theorem nd_eq (n n' : Nd) : n = n' ↔ n.kind = n'.kind ∧ n.data = n'.data ∧ n.size = n'.size ∧ n.count = n'.count ∧ n.ptrs = n'.ptrs ∧ n.items = n'.items := by
  cases n
  cases n'
  simp only [Nd.mk.injEq, Nd.kind, Nd.data, Nd.size, Nd.count, Nd.ptrs, Nd.items]
  exact ⟨fun h => ⟨h.1, h.2.1, h.2.2.2.1, h.2.2.2.2.1, h.2.2.1, h.2.2.2.2.2⟩, fun h => ⟨h.1, h.2.1, h.2.2.2.2.1, h.2.2.1, h.2.2.2.1, h.2.2.2.2.2⟩⟩
theorem bool_of {b : Bool} {p : Prop} (h : b = true ↔ p) (hp : p) : b = true := h.2 hp
theorem bool_no {b : Bool} {p : Prop} (h : b = true ↔ p) (hp : ¬ p) : b = false := by cases b; rfl; exact absurd (h.1 rfl) hp
theorem iff_true_of {p : Prop} (hp : p) : (true = true ↔ p) := ⟨fun _ => hp, fun _ => rfl⟩
theorem iff_false_of {p : Prop} (hp : ¬ p) : (false = true ↔ p) := ⟨fun h => (by cases h), fun h => absurd h hp⟩
def QnS (m : Nat) : Prop := ∀ (m' : Nat) (A B : Option Addr) (c c' : Nat) (l l' : List Nd) (w : World) (S S' : Nat → Prop) (b : Bool), NdsAt w S m A l → NdsAt w S' m' B l' → (b = true ↔ l = l') →
  Calls Try.prog 26 #[.slice A l.length c, .slice B l'.length c'] w fun e w' => e = .returned (.bool b) ∧ Below w.heap.size w w'
def QnN (m : Nat) : Prop := ∀ (m' : Nat) (n n' : Nd) (h h' : Hd) (w : World) (S S' : Nat → Prop) (b : Bool), NdAt w S m n h → NdAt w S' m' n' h' → (b = true ↔ n = n') →
  Calls Try.prog 9 #[.agg #[.int .i64 n.kind, .string n.data, .slice h.A n.ptrs.length h.a, .int .i64 n.size, .int .i64 n.count, .slice h.B n.items.length h.b], .agg #[.int .i64 n'.kind, .string n'.data, .slice h'.A n'.ptrs.length h'.a, .int .i64 n'.size, .int .i64 n'.count, .slice h'.B n'.items.length h'.b]] w fun e w' => e = .returned (.bool b) ∧ Below w.heap.size w w'
set_option maxHeartbeats 4000000 in
set_option maxRecDepth 100000 in
theorem qnN_of (m : Nat) (hS : QnS m) : QnN m := by
  intro m' n n' h h' w S S' b hn hn' hb
  have HS := Lib.hid hS
  have hba : Below w.heap.size w ((w.alloc (.cells #[.int .i64 n.kind, .string n.data, .slice h.A n.ptrs.length h.a, .int .i64 n.size, .int .i64 n.count, .slice h.B n.items.length h.b] nodeT)).alloc (.cells #[.int .i64 n'.kind, .string n'.data, .slice h'.A n'.ptrs.length h'.a, .int .i64 n'.size, .int .i64 n'.count, .slice h'.B n'.items.length h'.b] nodeT)) := ((Below.refl _ _).alloc (Nat.le_refl _) _).alloc (by simp) _
  have k1 : ((w.alloc (.cells #[.int .i64 n.kind, .string n.data, .slice h.A n.ptrs.length h.a, .int .i64 n.size, .int .i64 n.count, .slice h.B n.items.length h.b] nodeT)).alloc (.cells #[.int .i64 n'.kind, .string n'.data, .slice h'.A n'.ptrs.length h'.a, .int .i64 n'.size, .int .i64 n'.count, .slice h'.B n'.items.length h'.b] nodeT)).heap[w.heap.size]? = some (.cells #[.int .i64 n.kind, .string n.data, .slice h.A n.ptrs.length h.a, .int .i64 n.size, .int .i64 n.count, .slice h.B n.items.length h.b] nodeT (0, 0)) := (Below.heap_alloc _ _ _ (by simp)).trans (heap_alloc_new w _)
  have k2 : ((w.alloc (.cells #[.int .i64 n.kind, .string n.data, .slice h.A n.ptrs.length h.a, .int .i64 n.size, .int .i64 n.count, .slice h.B n.items.length h.b] nodeT)).alloc (.cells #[.int .i64 n'.kind, .string n'.data, .slice h'.A n'.ptrs.length h'.a, .int .i64 n'.size, .int .i64 n'.count, .slice h'.B n'.items.length h'.b] nodeT)).heap[w.heap.size + 1]? = some (.cells #[.int .i64 n'.kind, .string n'.data, .slice h'.A n'.ptrs.length h'.a, .int .i64 n'.size, .int .i64 n'.count, .slice h'.B n'.items.length h'.b] nodeT (0, 0)) := by have := heap_alloc_new (w.alloc (.cells #[.int .i64 n.kind, .string n.data, .slice h.A n.ptrs.length h.a, .int .i64 n.size, .int .i64 n.count, .slice h.B n.items.length h.b] nodeT)) (.cells #[.int .i64 n'.kind, .string n'.data, .slice h'.A n'.ptrs.length h'.a, .int .i64 n'.size, .int .i64 n'.count, .slice h'.B n'.items.length h'.b] nodeT); rwa [show (w.alloc (.cells #[.int .i64 n.kind, .string n.data, .slice h.A n.ptrs.length h.a, .int .i64 n.size, .int .i64 n.count, .slice h.B n.items.length h.b] nodeT)).heap.size = w.heap.size + 1 by simp] at this
  have HN := Lib.hid (hn.below hba)
  have HN' := Lib.hid (hn'.below hba)
  have hts : ((w.alloc (.cells #[.int .i64 n.kind, .string n.data, .slice h.A n.ptrs.length h.a, .int .i64 n.size, .int .i64 n.count, .slice h.B n.items.length h.b] nodeT)).alloc (.cells #[.int .i64 n'.kind, .string n'.data, .slice h'.A n'.ptrs.length h'.a, .int .i64 n'.size, .int .i64 n'.count, .slice h'.B n'.items.length h'.b] nodeT)).heap.size = w.heap.size + 2 := by simp
  have HBA := Lib.hid hba
  have HK1 := Lib.hid k1
  have HK2 := Lib.hid k2
  have HTS := Lib.hid hts
  have HQ := Lib.hid (hb.trans (nd_eq n n'))
  clear hS hn hn' hba k1 k2 hts hb
  by_cases hx : n.kind = n'.kind
  case neg =>
    have hxb : (n.kind == n'.kind) = false := by simpa using hx
    obtain rfl : b = false := by
      cases b
      · rfl
      · exact absurd (HQ.out.1 rfl).1 hx
    clear hx
    go_enter Try.func9, Try.ntmps9
    go_wp2
    go_ret
    exact ⟨rfl, HBA.out⟩
  have h1b : (n.kind == n'.kind) = true := by simpa using hx
  have H1 := Lib.hid hx
  clear hx
  by_cases hx : n.data = n'.data
  case neg =>
    have hxb : (n.data.toList == n'.data.toList) = false := by rw [toList_eq]; exact decide_eq_false hx
    obtain rfl : b = false := by
      cases b
      · rfl
      · exact absurd (HQ.out.1 rfl).2.1 hx
    clear hx
    go_enter Try.func9, Try.ntmps9
    go_wp2
    go_ret
    exact ⟨rfl, HBA.out⟩
  have h2b : (n.data.toList == n'.data.toList) = true := by rw [toList_eq]; exact decide_eq_true hx
  have H2 := Lib.hid hx
  clear hx
  by_cases hx : n.size = n'.size
  case neg =>
    have hxb : (n.size == n'.size) = false := by simpa using hx
    obtain rfl : b = false := by
      cases b
      · rfl
      · exact absurd (HQ.out.1 rfl).2.2.1 hx
    clear hx
    go_enter Try.func9, Try.ntmps9
    go_wp2
    go_ret
    exact ⟨rfl, HBA.out⟩
  have h3b : (n.size == n'.size) = true := by simpa using hx
  have H3 := Lib.hid hx
  clear hx
  by_cases hx : n.count = n'.count
  case neg =>
    have hxb : (n.count == n'.count) = false := by simpa using hx
    obtain rfl : b = false := by
      cases b
      · rfl
      · exact absurd (HQ.out.1 rfl).2.2.2.1 hx
    clear hx
    go_enter Try.func9, Try.ntmps9
    go_wp2
    go_ret
    exact ⟨rfl, HBA.out⟩
  have h4b : (n.count == n'.count) = true := by simpa using hx
  have H4 := Lib.hid hx
  clear hx
  by_cases hx : n.ptrs = n'.ptrs
  case neg =>
    obtain rfl : b = false := by
      cases b
      · rfl
      · exact absurd (HQ.out.1 rfl).2.2.2.2.1 hx
    have HC := Lib.hid (HS.out m' h.A h'.A h.a h'.a n.ptrs n'.ptrs _ S S' false HN.out.2.1 HN'.out.2.1 (iff_false_of hx))
    clear hx
    go_enter Try.func9, Try.ntmps9
    go_wp2_with fail
    refine HC.out.mono ?_
    rintro e w1 ⟨rfl, hb1⟩
    have HB1 := Lib.hid (HBA.out.trans (hb1.mono HBA.out.size))
    clear hb1
    go_wp2
    go_ret
    exact ⟨rfl, HB1.out⟩
  have H5 := Lib.hid hx
  have HC := Lib.hid (HS.out m' h.A h'.A h.a h'.a n.ptrs n'.ptrs _ S S' true HN.out.2.1 HN'.out.2.1 (iff_true_of hx))
  have H6 : Hid (b = true ↔ n.items = n'.items) := Lib.hid ⟨fun h => (HQ.out.1 h).2.2.2.2.2, fun h => HQ.out.2 ⟨H1.out, H2.out, H3.out, H4.out, H5.out, h⟩⟩
  clear hx
  go_enter Try.func9, Try.ntmps9
  go_wp2_with fail
  generalize ((w.alloc (.cells #[.int .i64 n.kind, .string n.data, .slice h.A n.ptrs.length h.a, .int .i64 n.size, .int .i64 n.count, .slice h.B n.items.length h.b] nodeT)).alloc (.cells #[.int .i64 n'.kind, .string n'.data, .slice h'.A n'.ptrs.length h'.a, .int .i64 n'.size, .int .i64 n'.count, .slice h'.B n'.items.length h'.b] nodeT)) = W at *
  refine HC.out.mono ?_
  rintro e w1 ⟨rfl, hb1⟩
  have HB1 := Lib.hid hb1
  obtain ⟨a0, a1, a2, a3, a4, a5⟩ := cells6 ((hb1.block _ (by have := HTS.out; omega)).trans HK1.out)
  obtain ⟨b0, b1, b2, b3, b4, b5⟩ := cells6 ((hb1.block _ (by have := HTS.out; omega)).trans HK2.out)
  clear hb1
  go_wp2_with fail
  refine (HS.out m' h.B h'.B h.b h'.b n.items n'.items w1 S S' b (HN.out.below HB1.out).2.2 (HN'.out.below HB1.out).2.2 H6.out).mono ?_
  rintro e w2 ⟨rfl, hb2⟩
  have HB2 := Lib.hid (HBA.out.trans ((HB1.out.trans (hb2.mono HB1.out.size)).mono (by have := HTS.out; omega)))
  clear hb2
  go_wp2
  go_ret
  exact ⟨rfl, HB2.out⟩
theorem qnS_zero : QnS 0 := by
  intro m' A B c c' l l' w S S' b hl hl' hb
  obtain rfl := hl.zero
  have hlen := hl'.len
  unfold maxLen at hlen
  by_cases h0 : l'.length = 0
  · obtain rfl : b = true := hb.2 (List.eq_nil_of_length_eq_zero h0).symm
    rw [h0]
    clear hb hl hl' h0 hlen
    go_enter Try.func26, Try.ntmps26
    go_wp2
    go_loop [5] (fun i => i = .int .i64 0) (fun _ => 0)
    case atStart => rfl
    case round =>
      obtain rfl := hrel
      go_wp2
      go_ret
      exact ⟨rfl, Below.refl _ _⟩
  · obtain rfl : b = false := bool_no hb (fun e => h0 (by rw [← e]; rfl))
    have hxb : ((([] : List Nd).length : Int) != (l'.length : Int)) = true := by simp; omega
    clear hb hl hl'
    go_enter Try.func26, Try.ntmps26
    go_wp2
    go_ret
    exact ⟨rfl, Below.refl _ _⟩
set_option maxHeartbeats 4000000 in
set_option maxRecDepth 100000 in
theorem qnS_succ (m : Nat) (hN : QnN m) : QnS (m + 1) := by
  intro m' A B c c' l l' w S S' b h h' hb
  have hlm := h.len
  have hlm' := h'.len
  unfold maxLen at hlm hlm'
  by_cases hll : l'.length = l.length
  case neg =>
    obtain rfl : b = false := bool_no hb (fun e => hll (by rw [e]))
    have hxb : ((l.length : Int) != (l'.length : Int)) = true := by simp; omega
    clear hb h h' hN
    go_enter Try.func26, Try.ntmps26
    go_wp2
    go_ret
    exact ⟨rfl, Below.refl _ _⟩
  have HF := Lib.hid h
  have HG := Lib.hid (h'.mono (Nat.le_succ m'))
  have HN := Lib.hid hN
  have HQ := Lib.hid hb
  rw [hll]
  have HLL := Lib.hid hll
  clear h h' hN hb hll hlm'
  go_enter Try.func26, Try.ntmps26
  go_wp2
  go_loopw [5] (fun i wr => ∃ k : Nat, i = .int .i64 k ∧ k ≤ l.length ∧ Hid (Below w.heap.size w wr) ∧ Hid (∀ j, j < k → l[j]? = l'[j]?)) (fun i _ => l.length - (intOf i).toNat)
  case atStart => exact ⟨0, rfl, by omega, Lib.hid (Below.refl _ _), Lib.hid (fun j hj => by omega)⟩
  case round =>
    obtain ⟨k, rfl, hk, HB, HE⟩ := hrel
    by_cases hlt : k < l.length
    · have hlt' : k < l'.length := by have := HLL.out; omega
      obtain ⟨x, hx, rfl, cx, nx⟩ := (HF.out.below HB.out).at_ hlt
      obtain ⟨y, hy, rfl, cy, ny⟩ := (HG.out.below HB.out).at_ hlt'
      have HEQ : Hid (l[k] = l'[k] → l[k]? = l'[k]?) := Lib.hid (fun e => by rw [List.getElem?_eq_getElem hlt, List.getElem?_eq_getElem hlt', e])
      have HNE : Hid (l[k] ≠ l'[k] → l ≠ l') := Lib.hid (fun e hl => e (by subst hl; rfl))
      generalize l[k] = n at cx nx HEQ HNE
      generalize l'[k] = n' at cy ny HEQ HNE
      have hd1 : Below wr.heap.size wr wr.drew := ⟨rfl, rfl, rfl, Nat.le_refl _, fun _ _ => rfl⟩
      have hx1 := cx.lt
      have hx2 := cy.lt
      obtain ⟨c0, c1, c2, c3, c4, c5⟩ := cx
      obtain ⟨d0, d1, d2, d3, d4, d5⟩ := cy
      have hk2 : (k : Int) < (l.length : Int) := by omega
      have hs := HB.out.size
      by_cases hnn : n = n'
      · have HP := Lib.hid (HN.out m' n n' hx hy wr.drew S S' true (nx.below hd1) (ny.below hd1) (iff_true_of hnn))
        have HP0 := Lib.hid (HN.out m' n n' hx hy wr S S' true nx ny (iff_true_of hnn))
        have HE1 := Lib.hid (HEQ.out hnn)
        clear nx ny hnn HEQ HNE
        go_wp2
        go_region_with (go_at_call 9; refine HP.out.mono ?_; rintro e w2 ⟨rfl, hb2⟩)
        all_goals
          have HB2 := Lib.hid (HB.out.trans ((show Below w.heap.size wr wr.drew from ⟨rfl, rfl, rfl, Nat.le_refl _, fun _ _ => rfl⟩).trans (hb2.mono (by simpa using hs))))
          clear hb2
          go_wp2
          go_roundw
          case rel =>
            refine ⟨k + 1, by go_num, by omega, HB2, Lib.hid fun j hj => ?_⟩
            rcases Nat.lt_or_ge j k with hl | hge
            · exact HE.out j hl
            · obtain rfl : j = k := by omega
              exact HE1.out
          case measure => simp [intOf]; omega
      · have HP := Lib.hid (HN.out m' n n' hx hy wr.drew S S' false (nx.below hd1) (ny.below hd1) (iff_false_of hnn))
        obtain rfl : b = false := bool_no HQ.out (HNE.out hnn)
        clear nx ny hnn HEQ HNE
        go_wp2
        go_region_with (go_at_call 9; refine HP.out.mono ?_; rintro e w2 ⟨rfl, hb2⟩)
        all_goals
          have HB2 := Lib.hid (HB.out.trans ((show Below w.heap.size wr wr.drew from ⟨rfl, rfl, rfl, Nat.le_refl _, fun _ _ => rfl⟩).trans (hb2.mono (by simpa using hs))))
          clear hb2
          go_wp2
          go_ret
          exact ⟨rfl, HB2.out⟩
    · obtain rfl : k = l.length := by omega
      obtain rfl : b = true := HQ.out.2 (List.ext_getElem? fun j => by
        rcases Nat.lt_or_ge j l.length with hl | hge
        · exact HE.out j hl
        · rw [List.getElem?_eq_none hge, List.getElem?_eq_none (by have := HLL.out; omega)])
      go_wp2
      go_ret
      exact ⟨rfl, HB.out⟩
theorem qnS_any : ∀ m, QnS m
  | 0 => qnS_zero
  | m + 1 => qnS_succ m (qnN_of m (qnS_any m))
theorem qnN_any (m : Nat) : QnN m := qnN_of m (qnS_any m)
end Go.Proofs.Ytfiiopchfmcjdaa

/- The specification's drawer of nodes: structs. -/
namespace Go.Proofs.Ytfiiopchfmcjdaa
open Go.RowKit Go.Deep
/-- how many draws a node of such a depth takes at most; how great it is; how many levels it has. -/
def dK : Nat → Nat
  | 0 => 0
  | d + 1 => 50 + 6 * dK d
def dT : Nat → Nat
  | 0 => 0
  | d + 1 => 1001 + 6 * dT d
def DrN (d : Nat) : Prop := ∀ (R n : Nat) (w : World), Rd w R n → n + dK d ≤ 500000 → Calls Try.prog 43 #[.pointer (some ⟨R, 0, none⟩), .int .i64 (d : Int)] w (NdP (2 * d) (dT d) R (n + dK d) w)
theorem picked_growN {w w1 w2 : World} {R n base m z : Nat} {e : TypeId} {v : Value} {xs : List Value} (hp : Picked w R n w1) (hR : R < base) (hwb : w.heap.size ≤ base) (hown : w1.ownsRow base e z v m xs) (hbs : base ≤ w1.heap.size) (hg : w1.grownBy w2 v.ownBlock) : Picked w R n w2 := by
  have hbel : Below base w1 w2 := (Below.refl base w1).grown hg hbs (fun k hk => (hown.lt k hk).1)
  obtain ⟨⟨a, l, c, p, hpn, hr, hc⟩, hk⟩ := hp
  refine ⟨⟨a, l, c, p, hpn, (hbel.block R hR).trans hr, hc.keeps (R := base) (Keeps.of_below hbel) (Nat.le_of_lt hR) (Nat.le_of_lt hR)⟩, ?_⟩
  exact ⟨hbel.os.trans hk.os, hbel.tape.trans hk.tape, hbel.output.trans hk.output, Nat.le_trans hk.size hbel.size, fun k hk1 hk2 => (hbel.block k (Nat.lt_of_lt_of_le hk1 hwb)).trans (hk.block k hk1 hk2)⟩
theorem NdAt.picked {w w' : World} {R n B m : Nat} {x : Nd} {h : Hd} (hn : NdAt w (FromC w B) m x h) (hp : Picked w R n w') (hR : R < B) : NdAt w' (FromC w' B) m x h :=
  hn.map' (fun k hk hs => ⟨hs.1, clean_of hs.2 (hp.2.block k hk (by have := hs.1; omega))⟩) (fun p _ _ hs hc => hc.block (hp.2.block _ hc.lt (by have := hs.1; omega)))
/-- the struct as it is drawn: its bytes so far. -/
def StD (g : Nat) (k : Nat) (w : World) : Prop := ∃ dd : ByteArray, dd.size = 8 * k ∧ w.heap[g]? = some (.cells #[.int .i64 1, .string dd, .slice none 0 0, .int .i64 0, .int .i64 0, .slice none 0 0] nodeT (0, 0))
set_option maxHeartbeats 8000000 in
set_option maxRecDepth 100000 in
theorem l13Struct_any (d : Nat) (hN : DrN d) (R n : Nat) (data ptrs : Nat) (w : World) (h : Rd w R n) (hn : n + 3 * data + ptrs * dK d ≤ 500000) (hd : data ≤ 3) (hp : ptrs ≤ 3) (hdd : d ≤ 8) (_hkd : dK d ≤ 20000) (_htd : dT d ≤ 300000) :
    Calls Try.prog 66 #[.pointer (some ⟨R, 0, none⟩), .int .i64 data, .int .i64 ptrs, .int .i64 ((d : Int) + 1)] w (NdP (2 * d + 1) (8 * data + ptrs * (1 + dT d)) R (n + 3 * data + ptrs * dK d) w) := by
  have hRw := h.lt
  obtain ⟨i0, hi, hz0, hz1, hz2⟩ := info_parts infoNd
  have hq0 := h.self.below (((Below.refl w.heap.size w).alloc (Nat.le_refl _) (.cells #[.int .i64 0, .string { data := #[] }, .slice none 0 0, .int .i64 0, .int .i64 0, .slice none 0 0] nodeT)).alloc (by simp) (.cells #[.int .i64 1, .string { data := #[] }, .slice none 0 0, .int .i64 0, .int .i64 0, .slice none 0 0] nodeT))
  have hr0 : ((w.alloc (.cells #[.int .i64 0, .string { data := #[] }, .slice none 0 0, .int .i64 0, .int .i64 0, .slice none 0 0] nodeT)).alloc (.cells #[.int .i64 1, .string { data := #[] }, .slice none 0 0, .int .i64 0, .int .i64 0, .slice none 0 0] nodeT)).heap[w.heap.size]? = some (.cells #[.int .i64 0, .string { data := #[] }, .slice none 0 0, .int .i64 0, .int .i64 0, .slice none 0 0] nodeT (0, 0)) := (Below.heap_alloc _ _ _ (by simp)).trans (heap_alloc_new w _)
  have hx0 : ((w.alloc (.cells #[.int .i64 0, .string { data := #[] }, .slice none 0 0, .int .i64 0, .int .i64 0, .slice none 0 0] nodeT)).alloc (.cells #[.int .i64 1, .string { data := #[] }, .slice none 0 0, .int .i64 0, .int .i64 0, .slice none 0 0] nodeT)).heap[w.heap.size + 1]? = some (.cells #[.int .i64 1, .string { data := #[] }, .slice none 0 0, .int .i64 0, .int .i64 0, .slice none 0 0] nodeT (0, 0)) := by have := heap_alloc_new (w.alloc (.cells #[.int .i64 0, .string { data := #[] }, .slice none 0 0, .int .i64 0, .int .i64 0, .slice none 0 0] nodeT)) (.cells #[.int .i64 1, .string { data := #[] }, .slice none 0 0, .int .i64 0, .int .i64 0, .slice none 0 0] nodeT); rwa [show (w.alloc (.cells #[.int .i64 0, .string { data := #[] }, .slice none 0 0, .int .i64 0, .int .i64 0, .slice none 0 0] nodeT)).heap.size = w.heap.size + 1 by simp] at this
  have hs0 : ((w.alloc (.cells #[.int .i64 0, .string { data := #[] }, .slice none 0 0, .int .i64 0, .int .i64 0, .slice none 0 0] nodeT)).alloc (.cells #[.int .i64 1, .string { data := #[] }, .slice none 0 0, .int .i64 0, .int .i64 0, .slice none 0 0] nodeT)).heap.size = w.heap.size + 2 := by simp
  have HQ0 := Lib.hid hq0
  have HR0 := Lib.hid hr0
  have HX0 := Lib.hid hx0
  have HNN := Lib.hid hN
  clear h hq0 hr0 hx0 hN
  go_enter Try.func66, Try.ntmps66
  go_wp2_with fail
  generalize (w.alloc (.cells #[.int .i64 0, .string { data := #[] }, .slice none 0 0, .int .i64 0, .int .i64 0, .slice none 0 0] nodeT)).alloc (.cells #[.int .i64 1, .string { data := #[] }, .slice none 0 0, .int .i64 0, .int .i64 0, .slice none 0 0] nodeT) = W0 at *
  go_loopw [10] (fun i wr => ∃ k : Nat, i = .int .i64 k ∧ k ≤ data ∧ Hid (StD (w.heap.size + 1) k wr) ∧ Hid (wr.heap[w.heap.size]? = some (.cells #[.int .i64 0, .string { data := #[] }, .slice none 0 0, .int .i64 0, .int .i64 0, .slice none 0 0] nodeT (0, 0))) ∧ Hid (Picked w R (n + 3 * k) wr ∧ w.heap.size + 2 ≤ wr.heap.size)) (fun i _ => data - (intOf i).toNat)
  case atStart => exact ⟨0, rfl, by omega, Lib.hid ⟨_, rfl, HX0.out⟩, HR0, Lib.hid ⟨HQ0.out, by omega⟩⟩
  case round =>
    obtain ⟨k, rfl, hk, HS, HZ, HP⟩ := hrel
    obtain ⟨dd, hds, hrow⟩ := HS.out
    obtain ⟨hpk, hsz⟩ := HP.out
    have hdb : dd.size ≤ 24 := by omega
    by_cases hlt : k < data
    · have hc := cells6 hrow
      obtain ⟨c0, c1, c2, c3, c4, c5⟩ := hc
      have hfr := row_free hrow 1
      have HPK := Lib.hid hpk
      have HROW := Lib.hid hrow
      have HDS := Lib.hid hds
      have hdr : (wr.drew).heap.size = wr.heap.size := rfl
      clear hpk hrow hds HS HP
      go_wp2_with fail
      go_region_with (go_at_call 78; go_must (refine (l13Word_any R (n + 3 * k) _ (by exact HPK.out.1.below ⟨rfl, rfl, rfl, Nat.le_refl _, fun _ _ => rfl⟩) (by omega)).mono ?_); rintro e w2 ⟨u, hu, rfl, hp2⟩; have hx2 := pick_rowN (w := wr.drew) HROW.out hp2 (by omega); obtain ⟨q0, q1, q2, q3, q4, q5⟩ := cells6 hx2; have qf := row_free hx2 1; have f1 : ¬ 9223372036854775807 < dd.size + u.size := by omega)
      all_goals
        have hp3 : Picked wr R (n + 3 * k + 3) w2 := ⟨hp2.1, ⟨hp2.2.os, hp2.2.tape, hp2.2.output, hp2.2.size, hp2.2.block⟩⟩
        have HP3 := Lib.hid (picked_storeN (HPK.out.then hp3) hRw (b := w.heap.size + 1) (by omega) 1 (.string (dd ++ u)))
        have HS3 : Hid (StD (w.heap.size + 1) (k + 1) (w2.setCell ⟨w.heap.size + 1, 1, none⟩ (.string (dd ++ u)))) := Lib.hid ⟨dd ++ u, by rw [getD_size, HDS.out, hu]; omega, row_setN hx2 1 _⟩
        have HZ3 := Lib.hid ((Below.heap_setCell w2 ⟨w.heap.size + 1, 1, none⟩ (.string (dd ++ u)) w.heap.size (by simp)).trans (pick_rowN (w := wr) HZ.out hp3 (by omega)))
        have hsz3 : w.heap.size + 2 ≤ (w2.setCell ⟨w.heap.size + 1, 1, none⟩ (.string (dd ++ u))).heap.size := by have := hp3.2.size; simp [World.setCell]; omega
        have HPP := Lib.hid (And.intro (HP3.out.mono (show n + 3 * k + 3 ≤ n + 3 * (k + 1) by omega)) hsz3)
        clear hp2 hp3 hx2 q0 q1 q2 q3 q4 q5 qf hsz3 hu
        go_wp2
        go_roundw
        case rel => exact ⟨k + 1, by go_num, by omega, HS3, HZ3, HPP⟩
        case measure => simp [intOf]; omega
    · obtain rfl : k = data := by omega
      have HROW := Lib.hid hrow
      have HPK := Lib.hid hpk
      have HZ1 := Lib.hid HZ.out
      have HDS := Lib.hid hds
      clear hrow hpk hds HS HP hlt
      go_wp2_with fail
      go_loopw [11] (fun i wr => ∃ j : Nat, i = .int .i64 j ∧ j ≤ ptrs ∧ Hid (∃ (v : Value) (q : List (Nd × Hd)), wr.heap[w.heap.size + 1]? = some (.cells #[.int .i64 1, .string dd, v, .int .i64 0, .int .i64 0, .slice none 0 0] nodeT (0, 0)) ∧ q.length = j ∧ NRowC wr (w.heap.size + 2) v q (2 * d) (dT d)) ∧ Hid (wr.heap[w.heap.size]? = some (.cells #[.int .i64 0, .string { data := #[] }, .slice none 0 0, .int .i64 0, .int .i64 0, .slice none 0 0] nodeT (0, 0))) ∧ Hid (Picked w R (n + 3 * k + j * dK d) wr ∧ w.heap.size + 2 ≤ wr.heap.size)) (fun i _ => ptrs - (intOf i).toNat)
      case atStart => exact ⟨0, rfl, by omega, Lib.hid ⟨_, [], HROW.out, rfl, NRowC.nil _ _ _ _⟩, HZ1, Lib.hid ⟨by have := HPK.out; simpa using this, hsz⟩⟩
      case round =>
        clear hsz
        obtain ⟨j, rfl, hj, HS, HZ, HP⟩ := hrel
        obtain ⟨v, q, hrow, hql, hnr⟩ := HS.out
        obtain ⟨hpk, hsz⟩ := HP.out
        have HQL := Lib.hid hql
        by_cases hlt : j < ptrs
        · obtain ⟨c0, c1, c2, c3, c4, c5⟩ := cells6 hrow
          have hq1000 : q.length ≤ 1000 := by omega
          have HPK2 := Lib.hid hpk
          have HROW2 := Lib.hid hrow
          have HNR := Lib.hid hnr
          have hdr : (wr.drew).heap.size = wr.heap.size := rfl
          have hjk : j * dK d + dK d ≤ ptrs * dK d := by have := Nat.mul_le_mul_right (dK d) (show j + 1 ≤ ptrs by omega); rw [Nat.add_mul] at this; omega
          have hwr : IntKind.i64.wrap (d : Int) = (d : Int) := by rw [IntKind.wrap_i64]; omega
          have HC := Lib.hid (HNN.out R (n + 3 * k + j * dK d) wr.drew (by exact HPK2.out.1.below ⟨rfl, rfl, rfl, Nat.le_refl _, fun _ _ => rfl⟩) (by omega))
          unfold NdP at HC
          clear hpk hrow hnr HS HP hql
          go_wp2_with fail
          go_region_law (first | (refine step_append_nd rfl (.tmp 30) (.tmp 35) rfl (w.heap.size + 2) v q.length (rowOf q) (by simp [Act.eval]) (HO2.out.1.alloc _) ⟨w2.heap.size, 0, none⟩ 1 (y, hy) (by simp [Act.eval]) (cells_six_new w2 (y, hy) _) hq1000 (by simp; omega) ?_; intro A4 c4 w4 hown4 hgrow4 hat4; have hx4 := (hgrow4.out.block (w.heap.size + 1) (by simp; omega) (fun e => by have := (HO2.out.1.lt _ e.symm).1; omega)).trans ((Below.heap_alloc w2 _ (w.heap.size + 1) (by omega)).trans HX2.out); have qf4 := row_free hx4 2; obtain ⟨r0, r1, r2, r3, r4, r5⟩ := cells6 hx4) | (go_simp; go_at_call 43; (with_reducible refine HC.out.mono ?_); rintro e w2 ⟨y, hy, rfl, hny, hty, hp2⟩; have hx2 := pick_rowN (w := wr.drew) HROW2.out hp2 (by omega); have HX2 := Lib.hid hx2; have HO2 := Lib.hid (NRowC.picked (w := wr.drew) HNR.out.drew hp2 (by omega)); have hsz2 : wr.heap.size ≤ w2.heap.size := hp2.2.size; obtain ⟨q0, q1, q2, q3, q4, q5⟩ := cells6 hx2; have hlt2 := row_lt hx2; have qa : ∀ o, (w2.alloc o).cell? ⟨w.heap.size + 1, 2, none⟩ = some v := fun o => (((Below.refl w2.heap.size w2).alloc (Nat.le_refl _) o).cell hlt2).trans q2))
          all_goals
            have hp3 : Picked wr R (n + 3 * k + j * dK d + dK d) w2 := ⟨hp2.1, ⟨hp2.2.os, hp2.2.tape, hp2.2.output, hp2.2.size, hp2.2.block⟩⟩
            have hbel : Below w.heap.size w2 w4 := ((Below.refl w.heap.size w2).alloc (by omega) _).grown hgrow4.out (by simp; omega) (fun k hk => by have := (HO2.out.1.lt k hk).1; omega)
            have hp4 : Picked w R (n + 3 * k + j * dK d + dK d) w4 := by
              obtain ⟨⟨a, l, c, p, hpn, hr, hc⟩, hk⟩ := HPK2.out.then hp3
              exact ⟨⟨a, l, c, p, hpn, (hbel.block R hRw).trans hr, hc.keeps (R := w.heap.size) (Keeps.of_below hbel) (Nat.le_of_lt hRw) (Nat.le_of_lt hRw)⟩, ⟨hbel.os.trans hk.os, hbel.tape.trans hk.tape, hbel.output.trans hk.output, Nat.le_trans hk.size hbel.size, fun k hk1 hk2 => (hbel.block k hk1).trans (hk.block k hk1 hk2)⟩⟩
            have hnx := (HO2.out.alloc _).next (hny.belowC ((Below.refl w2.heap.size w2).alloc (Nat.le_refl _) _)) hty.1 (show w.heap.size + 2 ≤ (wr.drew).heap.size from hsz) (fun k hk => (HNR.out.1.lt k hk).2) hown4.out hgrow4.out hat4.out
            have HS5 : Hid (∃ (v' : Value) (q' : List (Nd × Hd)), (w4.setCell ⟨w.heap.size + 1, 2, none⟩ (.slice A4 (q.length + 1) c4)).heap[w.heap.size + 1]? = some (.cells #[.int .i64 1, .string dd, v', .int .i64 0, .int .i64 0, .slice none 0 0] nodeT (0, 0)) ∧ q'.length = j + 1 ∧ NRowC (w4.setCell ⟨w.heap.size + 1, 2, none⟩ (.slice A4 (q.length + 1) c4)) (w.heap.size + 2) v' q' (2 * d) (dT d)) := Lib.hid ⟨_, _, row_setN hx4 2 _, by have := HQL.out; simp; omega, hnx.store (by omega)⟩
            have HZ5 := Lib.hid ((Below.heap_setCell w4 ⟨w.heap.size + 1, 2, none⟩ (.slice A4 (q.length + 1) c4) w.heap.size (by simp)).trans ((hgrow4.out.block w.heap.size (by simp; omega) (fun e => by have := (HO2.out.1.lt _ e.symm).1; omega)).trans ((Below.heap_alloc w2 _ w.heap.size (by omega)).trans (pick_rowN (w := wr) HZ.out hp3 (by omega)))))
            have HP5 : Hid (Picked w R (n + 3 * k + (j + 1) * dK d) (w4.setCell ⟨w.heap.size + 1, 2, none⟩ (.slice A4 (q.length + 1) c4)) ∧ w.heap.size + 2 ≤ (w4.setCell ⟨w.heap.size + 1, 2, none⟩ (.slice A4 (q.length + 1) c4)).heap.size) := Lib.hid ⟨(picked_storeN hp4 hRw (b := w.heap.size + 1) (by omega) 2 _).mono (by rw [Nat.add_mul]; omega), by have := hbel.size; simp [World.setCell]; omega⟩
            clear hp2 hp3 hp4 hbel hnx hx4 hx2 hown4 hgrow4 hat4 q0 q1 q2 q3 q4 q5 r0 r1 r2 r3 r4 r5 qf4 qa hlt2 hny hty
            go_wp2
            go_roundw
            case rel => exact ⟨j + 1, by go_num, by omega, HS5, HZ5, HP5⟩
            case measure => simp [intOf]; omega
        · obtain rfl : j = ptrs := by omega
          obtain ⟨A, cap, hv, hnds, htot⟩ := hnr.nds (by omega)
          subst hv
          have HND := Lib.hid hnds
          have HTOT := Lib.hid htot
          have HROW3 := Lib.hid hrow
          have HPK3 := Lib.hid hpk
          obtain ⟨c0, c1, c2, c3, c4, c5⟩ := cells6 hrow
          have hz0 : ∀ k, wr.cell? ⟨w.heap.size, k, none⟩ = (#[.int .i64 0, .string { data := #[] }, .slice none 0 0, .int .i64 0, .int .i64 0, .slice none 0 0] : Array Value)[k]? := fun k => cell_of_row _ _ _ _ _ _ HZ.out
          have hzf := row_free HZ.out
          clear hnr hnds htot hrow hpk HS HP hql hlt hi
          go_wp2_with fail
          obtain ⟨wf, hwf, hrw, hpw, huw⟩ := store6 (w1 := wr) (b := w.heap.size) HZ.out HPK3.out hRw (Nat.le_refl _) (.int .i64 1) (.string dd) (.slice A q.length cap) (.int .i64 0) (.int .i64 0) (.slice none 0 0)
          rw [hwf]
          obtain ⟨e0, e1, e2, e3, e4, e5⟩ := cells6 hrw
          exact bodyPost_ret (v := .agg #[.int .i64 1, .string dd, .slice A q.length cap, .int .i64 0, .int .i64 0, .slice none 0 0])
            (by simp [results, Try.results66, go_sem, e0, e1, e2, e3, e4, e5]) rfl
            ⟨.mk 1 dd (q.map (·.1)) 0 0 [], ⟨A, cap, none, 0⟩, by show _ = Ending.returned (.agg #[.int .i64 1, .string dd, .slice A (q.map (·.1)).length cap, .int .i64 0, .int .i64 0, .slice none 0 0]); rw [List.length_map], ⟨by show dd.size ≤ maxLen; unfold maxLen; omega, ((HND.out.fromC (by omega)).uponC huw).fromC (by omega), NdsAt.nil _ _ _ _⟩, ⟨by
              have h1 := HTOT.out
              rw [HQL.out] at h1
              show dd.size + totL (2 * d + 1) (q.map (·.1)) + totL (2 * d + 1) [] ≤ _
              have h2 : totL (2 * d + 1) [] = 0 := rfl
              have h3 := HDS.out
              omega, SB.small (by show dd.size ≤ 1100; have h3 := HDS.out; omega) (show (0 : Nat) ≤ 1000 by decide)⟩, hpw.mono (by omega)⟩
end Go.Proofs.Ytfiiopchfmcjdaa
