/- Texts of the proof of the law FnReadTwo, side by side: part 39. -/
import Derived.Test.YtlbfffokkhccaaaGreatDoorMReadTwo38
namespace Go.Proofs.YtlbfffokkhccaaaGreatDoor
open Go.RowKit
theorem nd_eq (n n' : Nd) : n = n' ↔ n.kind = n'.kind ∧ n.data = n'.data ∧ n.size = n'.size ∧ n.count = n'.count ∧ n.ptrs = n'.ptrs ∧ n.items = n'.items := by
 cases n
 cases n'
 simp only [Nd.mk.injEq, Nd.kind, Nd.data, Nd.size, Nd.count, Nd.ptrs, Nd.items]
 exact ⟨fun h => ⟨h.1, h.2.1, h.2.2.2.1, h.2.2.2.2.1, h.2.2.1, h.2.2.2.2.2⟩, fun h => ⟨h.1, h.2.1, h.2.2.2.2.1, h.2.2.1, h.2.2.2.1, h.2.2.2.2.2⟩⟩
theorem bool_no {b : Bool} {p : Prop} (h : b = true ↔ p) (hp : ¬ p) : b = false := by cases b; rfl; exact absurd (h.1 rfl) hp
theorem iff_true_of {p : Prop} (hp : p) : (true = true ↔ p) := ⟨fun _ => hp, fun _ => rfl⟩
theorem iff_false_of {p : Prop} (hp : ¬ p) : (false = true ↔ p) := ⟨fun h => (by cases h), fun h => absurd h hp⟩
def QnS (m : Nat) : Prop := ∀ (m' : Nat) (A B : Option Addr) (c c' : Nat) (l l' : List Nd) (w : World) (S S' : Nat → Prop) (b : Bool), NdsAt w S m A l → NdsAt w S' m' B l' → (b = true ↔ l = l') →
 Calls Tryz.prog 47 #[.slice A l.length c, .slice B l'.length c'] w fun e w' => e = .returned (.bool b) ∧ Below w.heap.size w w'
def QnN (m : Nat) : Prop := ∀ (m' : Nat) (n n' : Nd) (h h' : Hd) (w : World) (S S' : Nat → Prop) (b : Bool), NdAt w S m n h → NdAt w S' m' n' h' → (b = true ↔ n = n') →
 Calls Tryz.prog 16 #[.agg #[.int .i64 n.kind, .string n.data, .slice h.A n.ptrs.length h.a, .int .i64 n.size, .int .i64 n.count, .slice h.B n.items.length h.b], .agg #[.int .i64 n'.kind, .string n'.data, .slice h'.A n'.ptrs.length h'.a, .int .i64 n'.size, .int .i64 n'.count, .slice h'.B n'.items.length h'.b]] w fun e w' => e = .returned (.bool b) ∧ Below w.heap.size w w'
set_option maxHeartbeats 4000000 in
set_option maxRecDepth 100000 in
theorem qnN_of (m : Nat) (hS : QnS m) : QnN m := by
 intro m' n n' h h' w S S' b hn hn' hb
 have HS := Lib.hid hS
 have hba : Below w.heap.size w ((w.alloc (.cells #[.int .i64 n.kind, .string n.data, .slice h.A n.ptrs.length h.a, .int .i64 n.size, .int .i64 n.count, .slice h.B n.items.length h.b] nodeT)).alloc (.cells #[.int .i64 n'.kind, .string n'.data, .slice h'.A n'.ptrs.length h'.a, .int .i64 n'.size, .int .i64 n'.count, .slice h'.B n'.items.length h'.b] nodeT)) := ((Below.refl _ _).alloc (Nat.le_refl _) _).alloc (by simp) _
 have k1 : ((w.alloc (.cells #[.int .i64 n.kind, .string n.data, .slice h.A n.ptrs.length h.a, .int .i64 n.size, .int .i64 n.count, .slice h.B n.items.length h.b] nodeT)).alloc (.cells #[.int .i64 n'.kind, .string n'.data, .slice h'.A n'.ptrs.length h'.a, .int .i64 n'.size, .int .i64 n'.count, .slice h'.B n'.items.length h'.b] nodeT)).heap[w.heap.size]? = some (.cells #[.int .i64 n.kind, .string n.data, .slice h.A n.ptrs.length h.a, .int .i64 n.size, .int .i64 n.count, .slice h.B n.items.length h.b] nodeT (0, 0)) := (Below.heap_alloc _ _ _ (by simp)).trans (heap_alloc_new w _)
 have k2 : ((w.alloc (.cells #[.int .i64 n.kind, .string n.data, .slice h.A n.ptrs.length h.a, .int .i64 n.size, .int .i64 n.count, .slice h.B n.items.length h.b] nodeT)).alloc (.cells #[.int .i64 n'.kind, .string n'.data, .slice h'.A n'.ptrs.length h'.a, .int .i64 n'.size, .int .i64 n'.count, .slice h'.B n'.items.length h'.b] nodeT)).heap[w.heap.size + 1]? = some (.cells #[.int .i64 n'.kind, .string n'.data, .slice h'.A n'.ptrs.length h'.a, .int .i64 n'.size, .int .i64 n'.count, .slice h'.B n'.items.length h'.b] nodeT (0, 0)) := by have := heap_alloc_new (w.alloc (.cells #[.int .i64 n.kind, .string n.data, .slice h.A n.ptrs.length h.a, .int .i64 n.size, .int .i64 n.count, .slice h.B n.items.length h.b] nodeT)) (.cells #[.int .i64 n'.kind, .string n'.data, .slice h'.A n'.ptrs.length h'.a, .int .i64 n'.size, .int .i64 n'.count, .slice h'.B n'.items.length h'.b] nodeT); rwa [show (w.alloc (.cells #[.int .i64 n.kind, .string n.data, .slice h.A n.ptrs.length h.a, .int .i64 n.size, .int .i64 n.count, .slice h.B n.items.length h.b] nodeT)).heap.size = w.heap.size + 1 by simp] at this
 have HN := Lib.hid (hn.below hba)
 have HN' := Lib.hid (hn'.below hba)
 have hts : ((w.alloc (.cells #[.int .i64 n.kind, .string n.data, .slice h.A n.ptrs.length h.a, .int .i64 n.size, .int .i64 n.count, .slice h.B n.items.length h.b] nodeT)).alloc (.cells #[.int .i64 n'.kind, .string n'.data, .slice h'.A n'.ptrs.length h'.a, .int .i64 n'.size, .int .i64 n'.count, .slice h'.B n'.items.length h'.b] nodeT)).heap.size = w.heap.size + 2 := by simp
 have HBA := Lib.hid hba
 have HK1 := Lib.hid k1
 have HK2 := Lib.hid k2
 have HTS := Lib.hid hts
 have HQ := Lib.hid (hb.trans (nd_eq n n'))
 clear hS hn hn' hba k1 k2 hts hb
 by_cases hx : n.kind = n'.kind
 case neg =>
  have hxb : (n.kind == n'.kind) = false := by simpa using hx
  obtain rfl : b = false := by
   cases b
   · rfl
   · exact absurd (HQ.out.1 rfl).1 hx
  clear hx
  go_enter Tryz.func16, Tryz.ntmps16
  go_wp2
  go_ret
  exact ⟨rfl, HBA.out⟩
 have h1b : (n.kind == n'.kind) = true := by simpa using hx
 have H1 := Lib.hid hx
 clear hx
 by_cases hx : n.data = n'.data
 case neg =>
  have hxb : (n.data.toList == n'.data.toList) = false := by rw [toList_eq]; exact decide_eq_false hx
  obtain rfl : b = false := by
   cases b
   · rfl
   · exact absurd (HQ.out.1 rfl).2.1 hx
  clear hx
  go_enter Tryz.func16, Tryz.ntmps16
  go_wp2
  go_ret
  exact ⟨rfl, HBA.out⟩
 have h2b : (n.data.toList == n'.data.toList) = true := by rw [toList_eq]; exact decide_eq_true hx
 have H2 := Lib.hid hx
 clear hx
 by_cases hx : n.size = n'.size
 case neg =>
  have hxb : (n.size == n'.size) = false := by simpa using hx
  obtain rfl : b = false := by
   cases b
   · rfl
   · exact absurd (HQ.out.1 rfl).2.2.1 hx
  clear hx
  go_enter Tryz.func16, Tryz.ntmps16
  go_wp2
  go_ret
  exact ⟨rfl, HBA.out⟩
 have h3b : (n.size == n'.size) = true := by simpa using hx
 have H3 := Lib.hid hx
 clear hx
 by_cases hx : n.count = n'.count
 case neg =>
  have hxb : (n.count == n'.count) = false := by simpa using hx
  obtain rfl : b = false := by
   cases b
   · rfl
   · exact absurd (HQ.out.1 rfl).2.2.2.1 hx
  clear hx
  go_enter Tryz.func16, Tryz.ntmps16
  go_wp2
  go_ret
  exact ⟨rfl, HBA.out⟩
 have h4b : (n.count == n'.count) = true := by simpa using hx
 have H4 := Lib.hid hx
 clear hx
 by_cases hx : n.ptrs = n'.ptrs
 case neg =>
  obtain rfl : b = false := by
   cases b
   · rfl
   · exact absurd (HQ.out.1 rfl).2.2.2.2.1 hx
  have HC := Lib.hid (HS.out m' h.A h'.A h.a h'.a n.ptrs n'.ptrs _ S S' false HN.out.2.1 HN'.out.2.1 (iff_false_of hx))
  clear hx
  go_enter Tryz.func16, Tryz.ntmps16
  go_wp2_with fail
  refine HC.out.mono ?_
  rintro e w1 ⟨rfl, hb1⟩
  have HB1 := Lib.hid (HBA.out.trans (hb1.mono HBA.out.size))
  clear hb1
  go_wp2
  go_ret
  exact ⟨rfl, HB1.out⟩
 have H5 := Lib.hid hx
 have HC := Lib.hid (HS.out m' h.A h'.A h.a h'.a n.ptrs n'.ptrs _ S S' true HN.out.2.1 HN'.out.2.1 (iff_true_of hx))
 have H6 : Hid (b = true ↔ n.items = n'.items) := Lib.hid ⟨fun h => (HQ.out.1 h).2.2.2.2.2, fun h => HQ.out.2 ⟨H1.out, H2.out, H3.out, H4.out, H5.out, h⟩⟩
 clear hx
 go_enter Tryz.func16, Tryz.ntmps16
 go_wp2_with fail
 generalize ((w.alloc (.cells #[.int .i64 n.kind, .string n.data, .slice h.A n.ptrs.length h.a, .int .i64 n.size, .int .i64 n.count, .slice h.B n.items.length h.b] nodeT)).alloc (.cells #[.int .i64 n'.kind, .string n'.data, .slice h'.A n'.ptrs.length h'.a, .int .i64 n'.size, .int .i64 n'.count, .slice h'.B n'.items.length h'.b] nodeT)) = W at *
 refine HC.out.mono ?_
 rintro e w1 ⟨rfl, hb1⟩
 have HB1 := Lib.hid hb1
 obtain ⟨a0, a1, a2, a3, a4, a5⟩ := cells6 ((hb1.block _ (by have := HTS.out; omega)).trans HK1.out)
 obtain ⟨b0, b1, b2, b3, b4, b5⟩ := cells6 ((hb1.block _ (by have := HTS.out; omega)).trans HK2.out)
 clear hb1
 go_wp2_with fail
 refine (HS.out m' h.B h'.B h.b h'.b n.items n'.items w1 S S' b (HN.out.below HB1.out).2.2 (HN'.out.below HB1.out).2.2 H6.out).mono ?_
 rintro e w2 ⟨rfl, hb2⟩
 have HB2 := Lib.hid (HBA.out.trans ((HB1.out.trans (hb2.mono HB1.out.size)).mono (by have := HTS.out; omega)))
 clear hb2
 go_wp2
 go_ret
 exact ⟨rfl, HB2.out⟩
theorem qnS_zero : QnS 0 := by
 intro m' A B c c' l l' w S S' b hl hl' hb
 obtain rfl := hl.zero
 have hlen := hl'.len
 unfold maxLen at hlen
 by_cases h0 : l'.length = 0
 · obtain rfl : b = true := hb.2 (List.eq_nil_of_length_eq_zero h0).symm
   rw [h0]
   clear hb hl hl' h0 hlen
   go_enter Tryz.func47, Tryz.ntmps47
   go_wp2
   go_loop [5] (fun i => i = .int .i64 0) (fun _ => 0)
   case atStart => rfl
   case round =>
    obtain rfl := hrel
    go_wp2
    go_ret
    exact ⟨rfl, Below.refl _ _⟩
 · obtain rfl : b = false := bool_no hb (fun e => h0 (by rw [← e]; rfl))
   have hxb : ((([] : List Nd).length : Int) != (l'.length : Int)) = true := by simp; omega
   clear hb hl hl'
   go_enter Tryz.func47, Tryz.ntmps47
   go_wp2
   go_ret
   exact ⟨rfl, Below.refl _ _⟩
set_option maxHeartbeats 4000000 in
set_option maxRecDepth 100000 in
theorem qnS_succ (m : Nat) (hN : QnN m) : QnS (m + 1) := by
 intro m' A B c c' l l' w S S' b h h' hb
 have hlm := h.len
 have hlm' := h'.len
 unfold maxLen at hlm hlm'
 by_cases hll : l'.length = l.length
 case neg =>
  obtain rfl : b = false := bool_no hb (fun e => hll (by rw [e]))
  have hxb : ((l.length : Int) != (l'.length : Int)) = true := by simp; omega
  clear hb h h' hN
  go_enter Tryz.func47, Tryz.ntmps47
  go_wp2
  go_ret
  exact ⟨rfl, Below.refl _ _⟩
 have HF := Lib.hid h
 have HG := Lib.hid (h'.mono (Nat.le_succ m'))
 have HN := Lib.hid hN
 have HQ := Lib.hid hb
 rw [hll]
 have HLL := Lib.hid hll
 clear h h' hN hb hll hlm'
 go_enter Tryz.func47, Tryz.ntmps47
 go_wp2
 go_loopw [5] (fun i wr => ∃ k : Nat, i = .int .i64 k ∧ k ≤ l.length ∧ Hid (Below w.heap.size w wr) ∧ Hid (∀ j, j < k → l[j]? = l'[j]?)) (fun i _ => l.length - (intOf i).toNat)
 case atStart => exact ⟨0, rfl, by omega, Lib.hid (Below.refl _ _), Lib.hid (fun j hj => by omega)⟩
 case round =>
  obtain ⟨k, rfl, hk, HB, HE⟩ := hrel
  by_cases hlt : k < l.length
  · have hlt' : k < l'.length := by have := HLL.out; omega
    obtain ⟨x, hx, rfl, cx, nx⟩ := (HF.out.below HB.out).at_ hlt
    obtain ⟨y, hy, rfl, cy, ny⟩ := (HG.out.below HB.out).at_ hlt'
    have HEQ : Hid (l[k] = l'[k] → l[k]? = l'[k]?) := Lib.hid (fun e => by rw [List.getElem?_eq_getElem hlt, List.getElem?_eq_getElem hlt', e])
    have HNE : Hid (l[k] ≠ l'[k] → l ≠ l') := Lib.hid (fun e hl => e (by subst hl; rfl))
    generalize l[k] = n at cx nx HEQ HNE
    generalize l'[k] = n' at cy ny HEQ HNE
    have hd1 : Below wr.heap.size wr wr.drew := ⟨rfl, rfl, rfl, Nat.le_refl _, fun _ _ => rfl⟩
    have hx1 := cx.lt
    have hx2 := cy.lt
    obtain ⟨c0, c1, c2, c3, c4, c5⟩ := cx
    obtain ⟨d0, d1, d2, d3, d4, d5⟩ := cy
    have hk2 : (k : Int) < (l.length : Int) := by omega
    have hs := HB.out.size
    by_cases hnn : n = n'
    · have HP := Lib.hid (HN.out m' n n' hx hy wr.drew S S' true (nx.below hd1) (ny.below hd1) (iff_true_of hnn))
      have HP0 := Lib.hid (HN.out m' n n' hx hy wr S S' true nx ny (iff_true_of hnn))
      have HE1 := Lib.hid (HEQ.out hnn)
      clear nx ny hnn HEQ HNE
      go_wp2
      go_region_with (go_at_call 16; refine HP.out.mono ?_; rintro e w2 ⟨rfl, hb2⟩)
      all_goals
       have HB2 := Lib.hid (HB.out.trans ((show Below w.heap.size wr wr.drew from ⟨rfl, rfl, rfl, Nat.le_refl _, fun _ _ => rfl⟩).trans (hb2.mono (by simpa using hs))))
       clear hb2
       go_wp2
       go_roundw
       case rel =>
        refine ⟨k + 1, by go_num, by omega, HB2, Lib.hid fun j hj => ?_⟩
        rcases Nat.lt_or_ge j k with hl | hge
        · exact HE.out j hl
        · obtain rfl : j = k := by omega
          exact HE1.out
       case measure => simp [intOf]; omega
    · have HP := Lib.hid (HN.out m' n n' hx hy wr.drew S S' false (nx.below hd1) (ny.below hd1) (iff_false_of hnn))
      obtain rfl : b = false := bool_no HQ.out (HNE.out hnn)
      clear nx ny hnn HEQ HNE
      go_wp2
      go_region_with (go_at_call 16; refine HP.out.mono ?_; rintro e w2 ⟨rfl, hb2⟩)
      all_goals
       have HB2 := Lib.hid (HB.out.trans ((show Below w.heap.size wr wr.drew from ⟨rfl, rfl, rfl, Nat.le_refl _, fun _ _ => rfl⟩).trans (hb2.mono (by simpa using hs))))
       clear hb2
       go_wp2
       go_ret
       exact ⟨rfl, HB2.out⟩
  · obtain rfl : k = l.length := by omega
    obtain rfl : b = true := HQ.out.2 (List.ext_getElem? fun j => by
     rcases Nat.lt_or_ge j l.length with hl | hge
     · exact HE.out j hl
     · rw [List.getElem?_eq_none hge, List.getElem?_eq_none (by have := HLL.out; omega)])
    go_wp2
    go_ret
    exact ⟨rfl, HB.out⟩
theorem qnS_any : ∀ m, QnS m
 | 0 => qnS_zero
 | m + 1 => qnS_succ m (qnN_of m (qnS_any m))
theorem qnN_any (m : Nat) : QnN m := qnN_of m (qnS_any m)
end Go.Proofs.YtlbfffokkhccaaaGreatDoor
namespace Go.Proofs.YtlbfffokkhccaaaGreatDoor
open Go.RowKit Go.Deep
theorem farT_bytes : (ptW 3 0 0 0 0 0 1 true) = farT := by decide
theorem far2_bytes : (ptW 3 0 0 0 0 0 2 false) = farW 0 2 := by decide
theorem strs_three (w : World) (F G S : ByteArray) (hF : F.size ≤ maxLen) (hG : G.size ≤ maxLen) (hS : S.size ≤ maxLen) : Strs (w.alloc (.cells #[.string F, .string G, .string S] 9)) (some ⟨w.heap.size, 0, none⟩) [F, G, S] := by
 refine ⟨fun s hs => by simp at hs; rcases hs with rfl | rfl | rfl <;> assumption, .inr ⟨_, rfl, by simp, fun i hi => ?_⟩⟩
 have h := heap_alloc_new w (.cells #[.string F, .string G, .string S] 9)
 have hi2 : i = 0 ∨ i = 1 ∨ i = 2 := by simp at hi; omega
 rcases hi2 with rfl | rfl | rfl
 all_goals (rw [add_zero0, cell_of_row _ _ _ _ _ _ h]; rfl)
set_option maxHeartbeats 4000000 in
set_option maxRecDepth 100000 in
theorem walkReadTwo (w : World) (a : Option Addr) (len cap : Nat) (h : Arg w a len cap) :
 Calls Tryz.prog 7 #[.slice a len cap] w fun e w' => e = .returned (.bool true) ∧ Below w.heap.size w w' := by
 have hlen := h.1.1
 unfold maxLen at hlen
 by_cases hbig : 1048576 < len
 · go_enter Tryz.func7, Tryz.ntmps7
   go_wp2
   go_ret
   exact ⟨rfl, Below.refl _ _⟩
 have HD := Lib.hid (drawBuildOne_any a len cap w h)
 clear h
 go_enter Tryz.func7, Tryz.ntmps7
 go_wp2_with fail
 refine HD.out.mono ?_
 rintro e w1 ⟨n, h1, rfl, hn1, ht1, hb1⟩
 have hb2 := (Below.refl w1.heap.size w1).alloc (Nat.le_refl _) (.cells #[.int .i64 n.kind, .string n.data, .slice h1.A n.ptrs.length h1.a, .int .i64 n.size, .int .i64 n.count, .slice h1.B n.items.length h1.b] nodeT)
 have HR2 := Lib.hid (heap_alloc_new w1 (.cells #[.int .i64 n.kind, .string n.data, .slice h1.A n.ptrs.length h1.a, .int .i64 n.size, .int .i64 n.count, .slice h1.B n.items.length h1.b] nodeT))
 have HB2 := Lib.hid (hb1.trans (hb2.mono hb1.size))
 have HN2 := Lib.hid ((hn1.weak (S' := Any) (fun _ _ => trivial)).below hb2)
 have HT : Hid (totN 18 n ≤ 2000000) := Lib.hid (by omega)
 clear hb1 hn1 ht1 hb2 HD
 have HLT := Lib.hid (show w1.heap.size < (w1.alloc (.cells #[.int .i64 n.kind, .string n.data, .slice h1.A n.ptrs.length h1.a, .int .i64 n.size, .int .i64 n.count, .slice h1.B n.items.length h1.b] nodeT)).heap.size by simp)
 obtain ⟨a0, a1, a2, a3, a4, a5⟩ := cells6 HR2.out
 go_wp2_with fail
 generalize w1.alloc (.cells #[.int .i64 n.kind, .string n.data, .slice h1.A n.ptrs.length h1.a, .int .i64 n.size, .int .i64 n.count, .slice h1.B n.items.length h1.b] nodeT) = W2 at *
 have HI := Lib.hid (fun (W : World) (hW : Below W2.heap.size W2 W) => (implBuildOne_a 18 n h1 W Any (HN2.out.below hW) HT.out).mono (fun _ _ h => h.det))
 have HS := Lib.hid (fun (W : World) (hW : Below W2.heap.size W2 W) => (specBuildOne_a 18 n h1 W Any (HN2.out.below hW) HT.out).mono (fun _ _ h => h.det))
 have HC : Hid (∀ W : World, Below W2.heap.size W2 W → Calls Tryz.prog 12 #[.agg #[.int .i64 n.kind, .string n.data, .slice h1.A n.ptrs.length h1.a, .int .i64 n.size, .int .i64 n.count, .slice h1.B n.items.length h1.b]] W fun e w' => e = .returned (.int .i64 (nodeCost n : Nat)) ∧ Below W.heap.size W w') := Lib.hid fun W hW => implReadCost_a 18 n h1 W Any (HN2.out.below hW) HT.out
 have HPU : Hid (oneB (bldV n 200) = true → ∀ S : ByteArray, oneS (bldV n 200) = S → 16 ≤ S.size → S.size + 16 ≤ 1600 → _) := Lib.hid (fun h S hS h16 hle => two_facts (n := n) h S hS h16 hle)
 have HPZ : Hid (oneB (bldV n 200) = true → nodeOk n = true ∧ (oneS (bldV n 200)).size ≤ 1600 ∧ (oneS (bldV n 200)).size % 8 = 0) := Lib.hid fun h => by
  obtain ⟨q1, s, q2, q3, q4, q5, _⟩ := one_rd h
  rw [q5]
  simp [ByteArray.size]
  exact ⟨q1, by omega, by omega⟩
 have HNC : Hid (nodeOk n = true → nodeCost n = costN 8 n) := Lib.hid fun h => by unfold nodeCost; rw [if_pos h]
 generalize nodeCost n = nc at *
 cases hb : oneB (bldV n 200) with
 | false =>
  rw [hb] at HI HS
  clear HPU HPZ HC HNC hb
  generalize oneS (bldV n 200) = SB at *
  refine (HI.out _ (Below.refl _ _)).mono ?_
  rintro e w3 ⟨rfl, hb3⟩
  have HX3 := Lib.hid hb3
  clear hb3 a0 a1 a2 a3 a4 a5
  obtain ⟨a0, a1, a2, a3, a4, a5⟩ := cells6 ((HX3.out.block _ HLT.out).trans HR2.out)
  go_wp2_with fail
  refine (HS.out _ HX3.out).mono ?_
  rintro e w4 ⟨rfl, hb4⟩
  have HX4 := Lib.hid (HB2.out.trans ((HX3.out.trans (hb4.mono HX3.out.size)).mono HB2.out.size))
  clear hb4 a0 a1 a2 a3 a4 a5
  go_wp2
  go_ret
  exact ⟨rfl, HX4.out⟩
 | true =>
  obtain ⟨hok, hz1, hz2⟩ := HPZ.out hb
  rw [hb] at HI HS
  have hnc := HNC.out hok
  have HPV := Lib.hid (HPU.out hb _ rfl)
  generalize oneS (bldV n 200) = SB at *
  clear HPU HPZ HNC hb
  refine (HI.out _ (Below.refl _ _)).mono ?_
  rintro e w3 ⟨rfl, hb3⟩
  have HX3 := Lib.hid hb3
  clear hb3 a0 a1 a2 a3 a4 a5
  obtain ⟨a0, a1, a2, a3, a4, a5⟩ := cells6 ((HX3.out.block _ HLT.out).trans HR2.out)
  go_wp2_with fail
  refine (HS.out _ HX3.out).mono ?_
  rintro e w4 ⟨rfl, hb4⟩
  have HX4 := Lib.hid (HX3.out.trans (hb4.mono HX3.out.size))
  clear hb4 a0 a1 a2 a3 a4 a5
  obtain ⟨a0, a1, a2, a3, a4, a5⟩ := cells6 ((HX4.out.block _ HLT.out).trans HR2.out)
  by_cases h16 : SB.size < 16
  · have h16b : ((SB.size : Nat) : Int) < 16 := by omega
    have HX9 := Lib.hid (HB2.out.trans (HX4.out.mono HB2.out.size))
    go_wp2
    go_ret
    exact ⟨rfl, HX9.out⟩
  have h16b : ¬ ((SB.size : Nat) : Int) < 16 := by omega
  go_wp2_with fail
  refine (HC.out _ HX4.out).mono ?_
  rintro e w5 ⟨rfl, hb5⟩
  have HX5 := Lib.hid (HX4.out.trans (hb5.mono HX4.out.size))
  clear hb5 a0 a1 a2 a3 a4 a5
  have HW16 := Lib.hid (w64_sm (n := ((SB.size : Nat) : Int) + 16) (by omega) (by omega))
  by_cases hle : nc ≤ 1000
  · have hgt : ¬ (nc : Int) > 1000 := by omega
    by_cases hl : SB.size + 16 ≤ 1600
    · have hsg : ¬ ((SB.size : Nat) : Int) + 16 > 1600 := by omega
      obtain ⟨g1, g2, g3, ⟨k, d, p, z, c, g, t, g4, g5⟩, g6, g7, g8, g9, g10⟩ := HPV.out (by omega) hl
      have hus : (SB.extract 0 8).size = 8 := by rw [← data_toList, g6, ptrW_length]
      have HTR : Hid (∀ (A : Option Addr) (c : Nat) (F G : ByteArray) (W : World), Strs W A [F, G, SB.extract 8 SB.size] → F.data.toList = farT → G.data.toList = farW 0 2 ++ ptrW n 0 → Calls Tryz.prog 15 #[.slice A 3 c, .int .i64 1000] W (ReadQ n W)) := Lib.hid fun A c F G W hW hF hG => two_read A c F G (SB.extract 8 SB.size) W n hW hF hG g7 g8 g1 g2 g3 (by omega) (g10 _ _ (by rw [hF]; rfl) (by rw [hG, List.length_append, farW_length, ptrW_length])) g9
      have HPG : Hid (∀ W : World, Calls Tryz.prog 26 #[.string (SB.extract 0 8)] W fun e w' => e = .returned (.agg #[.int .i64 k, .int .i64 0, .int .i64 d, .int .i64 p, .int .i64 z, .int .i64 c, .int .i64 g, .bool t]) ∧ Below W.heap.size W w') := Lib.hid fun W => by
       have := implPointGet_any (SB.extract 0 8) W (by unfold maxLen; omega)
       rwa [g4] at this
      have HP1 : Hid (∀ W : World, Calls Tryz.prog 25 #[.agg #[.int .i64 3, .int .i64 0, .int .i64 0, .int .i64 0, .int .i64 0, .int .i64 0, .int .i64 1, .bool true]] W fun e w' => e = .returned (.string ⟨farT.toArray⟩) ∧ Below W.heap.size W w') := Lib.hid fun W => by
       have := implPointPut_any 3 0 0 0 0 0 1 true W
       rwa [farT_bytes] at this
      have HP2 : Hid (∀ W : World, Calls Tryz.prog 25 #[.agg #[.int .i64 3, .int .i64 0, .int .i64 0, .int .i64 0, .int .i64 0, .int .i64 0, .int .i64 2, .bool false]] W fun e w' => e = .returned (.string ⟨(farW 0 2).toArray⟩) ∧ Below W.heap.size W w') := Lib.hid fun W => by
       have := implPointPut_any 3 0 0 0 0 0 2 false W
       rwa [far2_bytes] at this
      have HP3 : Hid (∀ W : World, Calls Tryz.prog 25 #[.agg #[.int .i64 k, .int .i64 0, .int .i64 d, .int .i64 p, .int .i64 z, .int .i64 c, .int .i64 g, .bool t]] W fun e w' => e = .returned (.string (SB.extract 0 8)) ∧ Below W.heap.size W w') := Lib.hid fun W => by
       have := implPointPut_any k 0 d p z c g t W
       rwa [g5] at this
      have HF1 : Hid ((⟨farT.toArray⟩ : ByteArray).data.toList = farT) := Lib.hid (by simp)
      have HF2 : Hid ((⟨farT.toArray⟩ : ByteArray).size ≤ maxLen) := Lib.hid (by decide)
      have hG1 : ((⟨(farW 0 2).toArray⟩ : ByteArray) ++ SB.extract 0 8).data.toList = farW 0 2 ++ ptrW n 0 := by rw [← g6]; simp
      have HG1 := Lib.hid hG1
      have HG2 : Hid (((⟨(farW 0 2).toArray⟩ : ByteArray) ++ SB.extract 0 8).size ≤ maxLen) := Lib.hid (by rw [getD_size, hus]; decide)
      have HTZ : Hid ((SB.extract 8 SB.size).size ≤ maxLen) := Lib.hid (by unfold maxLen; omega)
      have hf2 : (⟨(farW 0 2).toArray⟩ : ByteArray).size = 8 := by decide
      generalize (⟨farT.toArray⟩ : ByteArray) = F at *
      generalize (⟨(farW 0 2).toArray⟩ : ByteArray) = F2 at *
      have hcat : ¬ 9223372036854775807 < F2.size + (SB.extract 0 8).size := by omega
      clear g1 g2 g3 g4 g5 g6 g7 g8 g9 g10 HPV hnc hok hz1 hz2 hG1 hle
      obtain ⟨a0, a1, a2, a3, a4, a5⟩ := cells6 ((HX5.out.block _ HLT.out).trans HR2.out)
      have ew := HW16.out.1
      have ew2 := HW16.out.2
      have es1 : (0 : Int) ≤ 8 := by decide
      have es2 : (8 : Int) ≤ ((SB.size : Nat) : Int) := by omega
      go_wp2_with fail
      refine (HPG.out _).mono ?_
      rintro e w6 ⟨rfl, hb6⟩
      have hba := hb6.alloc hb6.size (.cells #[.int .i64 k, .int .i64 0, .int .i64 d, .int .i64 p, .int .i64 z, .int .i64 c, .int .i64 g, .bool t] 44)
      have HX6 := Lib.hid (HX5.out.trans (hba.mono HX5.out.size))
      have P6 := Lib.hid (heap_alloc_new w6 (.cells #[.int .i64 k, .int .i64 0, .int .i64 d, .int .i64 p, .int .i64 z, .int .i64 c, .int .i64 g, .bool t] 44))
      clear hb6 hba a0 a1 a2 a3 a4 a5
      go_wp2_with fail
      generalize w6.alloc (.cells #[.int .i64 k, .int .i64 0, .int .i64 d, .int .i64 p, .int .i64 z, .int .i64 c, .int .i64 g, .bool t] 44) = W6 at *
      generalize w6.heap.size = pb at *
      refine (HP1.out _).mono ?_
      rintro e w7 ⟨rfl, hb7⟩
      have HX7 := Lib.hid (HX6.out.trans (hb7.mono HX6.out.size))
      have p7 := (hb7.block _ (row_lt P6.out)).trans P6.out
      obtain ⟨c0, c1, c2, c3, c4, c5, c6, c7⟩ := cells8 p7
      have q0 := cell_regrown c0
      have q1 := cell_regrown c1
      have q2 := cell_regrown c2
      have q3 := cell_regrown c3
      have q4 := cell_regrown c4
      have q5 := cell_regrown c5
      have q6 := cell_regrown c6
      have q7 := cell_regrown c7
      clear hb7 p7 c0 c1 c2 c3 c4 c5 c6 c7
      go_wp2_with fail
      refine wp_region_quiet_below (by kernel_rfl) (by kernel_rfl) ?_
      repeat (first | go_big_quiet_step ((go_at_call 25; first | with_reducible exact Calls.regrown_of (HP2.out _) | with_reducible exact Calls.regrown_of (HP3.out _))) | quiet_step ((go_at_call 25; first | with_reducible exact Calls.regrown_of (HP2.out _) | with_reducible exact Calls.regrown_of (HP3.out _))))
      refine wpQuiet_nil ?_
      intro _ hw'
      obtain ⟨⟨dq, osq⟩, hw''⟩ := hw'
      subst hw''
      have HX8 := Lib.hid (HX7.out.trans ((below_regrown w7 dq osq).mono HX7.out.size))
      generalize «Sort».grow (redrawn w7 dq) osq = w8 at *
      clear q0 q1 q2 q3 q4 q5 q6 q7
      have HRW := Lib.hid (HTR.out (some ⟨w8.heap.size, 0, none⟩) 3 F (F2 ++ SB.extract 0 8) _ (strs_three w8 F (F2 ++ SB.extract 0 8) (SB.extract 8 SB.size) HF2.out HG2.out HTZ.out) HF1.out HG1.out)
      unfold ReadQ at HRW
      go_wp2_with fail
      have hba := HX8.out.alloc HX8.out.size (.cells #[.string F, .string (F2 ++ SB.extract 0 8), .string (SB.extract 8 SB.size)] 9)
      refine HRW.out.mono ?_
      rintro e w9 ⟨hy, rfl, hny, hb9⟩
      have hX9 := hba.trans (hb9.mono hba.size)
      have hyx := (Below.refl w9.heap.size w9).alloc (Nat.le_refl _) (.cells #[.int .i64 n.kind, .string n.data, .slice hy.A n.ptrs.length hy.a, .int .i64 n.size, .int .i64 n.count, .slice hy.B n.items.length hy.b] nodeT)
      have y9 := heap_alloc_new w9 (.cells #[.int .i64 n.kind, .string n.data, .slice hy.A n.ptrs.length hy.a, .int .i64 n.size, .int .i64 n.count, .slice hy.B n.items.length hy.b] nodeT)
      have HX9 := Lib.hid (hX9.trans (hyx.mono hX9.size))
      have HNY := Lib.hid (hny.below hyx)
      obtain ⟨b0, b1, b2, b3, b4, b5⟩ := cells6 y9
      clear hba hb9 hX9 hyx y9 hny HRW
      obtain ⟨a0, a1, a2, a3, a4, a5⟩ := cells6 ((HX9.out.block _ HLT.out).trans HR2.out)
      have HQ := Lib.hid (qnN_any 16 18 n n hy h1 _ _ _ true HNY.out (HN2.out.below HX9.out) (iff_true_of rfl))
      go_wp2_with fail
      refine HQ.out.mono ?_
      rintro e w10 ⟨rfl, hb10⟩
      have HXF := Lib.hid (HB2.out.trans ((HX9.out.trans (hb10.mono HX9.out.size)).mono HB2.out.size))
      clear a0 a1 a2 a3 a4 a5 b0 b1 b2 b3 b4 b5 hb10 HQ
      go_wp2
      go_ret
      exact ⟨rfl, HXF.out⟩
    · have hsg : ((SB.size : Nat) : Int) + 16 > 1600 := by omega
      have ew := HW16.out.1
      have ew2 := HW16.out.2
      have HX9 := Lib.hid (HB2.out.trans (HX5.out.mono HB2.out.size))
      go_wp2
      go_ret
      exact ⟨rfl, HX9.out⟩
  · have hgt : (nc : Int) > 1000 := by omega
    have HX9 := Lib.hid (HB2.out.trans (HX5.out.mono HB2.out.size))
    go_wp2
    go_ret
    exact ⟨rfl, HX9.out⟩
end Go.Proofs.YtlbfffokkhccaaaGreatDoor