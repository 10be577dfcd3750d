/- Texts of the proof of the law FnExactAlike, side by side: part 17. -/
import Derived.Deep.LoopGhost
import Derived.Carry
import Derived.Deep.RegionHeld3
import Derived.Lib.QuietBelow
import Derived.Test.YtmloegdipphbkaaMExactAlike00
import Derived.Test.YtmloegdipphbkaaMExactAlike01
import Derived.Test.YtmloegdipphbkaaMExactAlike02
import Derived.Test.YtmloegdipphbkaaMExactAlike03
import Derived.Test.YtmloegdipphbkaaMExactAlike04
import Derived.Test.YtmloegdipphbkaaMExactAlike05
import Derived.Test.YtmloegdipphbkaaMExactAlike06
import Derived.Test.YtmloegdipphbkaaMExactAlike07
import Derived.Test.YtmloegdipphbkaaMExactAlike08
import Derived.Test.YtmloegdipphbkaaMExactAlike09
import Derived.Test.YtmloegdipphbkaaMExactAlike10
import Derived.Test.YtmloegdipphbkaaMExactAlike11
import Derived.Test.YtmloegdipphbkaaMExactAlike12
import Derived.Test.YtmloegdipphbkaaMExactAlike13
import Derived.Test.YtmloegdipphbkaaMExactAlike14
import Derived.Test.YtmloegdipphbkaaMExactAlike15
import Derived.Test.YtmloegdipphbkaaMExactAlike16
/- The program's NodeSame. -/
namespace Go.Proofs.Ytmloegdipphbkaa
open Go.RowKit Go.Deep
theorem parts_lens {n n' : Nd} (h : PartsEq n n') : n.ptrs.length = n'.ptrs.length ∧ n.items.length = n'.items.length := ⟨h.2.2.2.2.1, h.2.2.2.2.2⟩
theorem same_parts {n n' : Nd} (h : n = n') : PartsEq n n' := by subst h; exact ⟨rfl, rfl, rfl, rfl, rfl, rfl⟩
theorem clean_below {w w' : World} {k : Nat} (h : Clean w k) (hb : Below w.heap.size w w') : Clean w' k := by
  obtain ⟨c, t, hk⟩ := h
  exact ⟨c, t, (hb.block k (row_lt hk)).trans hk⟩
theorem row_lt' {w : World} {g : Nat} {o : Obj} (h : w.heap[g]? = some o) : g < w.heap.size := row_lt h
theorem clean_lt {w : World} {k : Nat} (h : Clean w k) : k < w.heap.size := by
  obtain ⟨c, t, hk⟩ := h
  exact row_lt hk
theorem nds_head {w : World} {S : Nat → Prop} {m : Nat} {A : Option Addr} {l : List Nd} (h : NdsAt w S m A l) : l = [] ∨ ∃ x, A = some x := by
  rcases Nat.eq_zero_or_pos l.length with h0 | h0
  · exact .inl (List.eq_nil_of_length_eq_zero h0)
  · obtain ⟨j, rfl⟩ := h.pred h0
    obtain ⟨x, _, hA, _⟩ := h.at_ h0
    exact .inr ⟨x, hA⟩
theorem concat_of {α : Type} (l : List α) (h : 0 < l.length) : ∃ l' x, l = l' ++ [x] := by
  rcases List.eq_nil_or_concat l with e | ⟨l', x, e⟩
  · subst e; cases h
  · exact ⟨l', x, by rw [e, List.concat_eq_append]⟩
theorem own_open {w : World} {B n cap : Nat} {A : Option Addr} {xs : List Value} (h : w.ownsRow B prT 2 (.slice A (n + 1) cap) (n + 1) xs) : ∃ g, A = some ⟨g, 0, none⟩ ∧ B ≤ g ∧ n + 1 ≤ cap ∧ g < w.heap.size ∧ ∀ j u, xs[j]? = some u → w.cell? ⟨g, j, none⟩ = some u := by
  rcases h.2 with ⟨e, _⟩ | ⟨g, cap', cur, e, hB, hg, hc, _⟩
  · simp at e
  · simp only [Value.slice.injEq, true_and] at e
    obtain ⟨rfl, rfl⟩ := e
    refine ⟨g, rfl, hB, hc, row_lt hg, fun j u hj => ?_⟩
    have := h.cells (g := g) rfl j u hj
    rwa [add_zero0] at this
theorem own_keep {w w' : World} {B e z n : Nat} {v : Value} {xs : List Value} (h : w.ownsRow B e z v n xs) (hk : ∀ k, B ≤ k → k < w.heap.size → w'.heap[k]? = w.heap[k]?) : w'.ownsRow B e z v n xs := by
  refine ⟨h.1, h.2.imp id ?_⟩
  rintro ⟨g, cap, cur, e, hB, hg, hr⟩
  exact ⟨g, cap, cur, e, hB, (hk g hB (row_lt hg)).trans hg, hr⟩
theorem own_pop {w : World} {B cap : Nat} {A : Option Addr} {G : List PT} {t : PT} (h : w.ownsRow B prT 2 (.slice A (G.length + 1) cap) (G.length + 1) (rowP (G ++ [t]))) : w.ownsRow B prT 2 (.slice A G.length cap) G.length (rowP G) := by
  refine ⟨rowP_length G, ?_⟩
  rcases h.2 with ⟨e, _⟩ | ⟨g, cap', cur, e, hB, hg, hc, hm, hs, ht⟩
  · simp at e
  · simp only [Value.slice.injEq, true_and] at e
    obtain ⟨rfl, rfl⟩ := e
    refine .inr ⟨g, cap, cur, rfl, hB, hg, by omega, hm, hs, ?_⟩
    rw [rowP_app] at ht
    have h1 := congrArg (List.take (G.length * 2)) ht
    rw [List.take_take, Nat.min_eq_left (by omega), List.take_append_of_le_length (Nat.le_of_eq (rowP_length G).symm)] at h1
    rw [h1]
    exact List.take_of_length_le (by rw [rowP_length]; exact Nat.le_refl _)
set_option maxHeartbeats 8000000 in
set_option maxRecDepth 100000 in
theorem implNodeSame_a (m m' : Nat) (n n' : Nd) (h h' : Hd) (w : World) (b : Bool) (hn : NdAt w (Clean w) m n h) (hn' : NdAt w (Clean w) m' n' h') (ht : totN m n ≤ 2000000) (hb : b = true ↔ n = n') :
    Calls Try.prog 32 #[.agg #[.int .i64 n.kind, .string n.data, .slice h.A n.ptrs.length h.a, .int .i64 n.size, .int .i64 n.count, .slice h.B n.items.length h.b], .agg #[.int .i64 n'.kind, .string n'.data, .slice h'.A n'.ptrs.length h'.a, .int .i64 n'.size, .int .i64 n'.count, .slice h'.B n'.items.length h'.b]] w fun e w' => e = .returned (.bool b) ∧ Below w.heap.size w w' := by
  have hba : Below w.heap.size w ((w.alloc (.cells #[.int .i64 n.kind, .string n.data, .slice h.A n.ptrs.length h.a, .int .i64 n.size, .int .i64 n.count, .slice h.B n.items.length h.b] nodeT)).alloc (.cells #[.int .i64 n'.kind, .string n'.data, .slice h'.A n'.ptrs.length h'.a, .int .i64 n'.size, .int .i64 n'.count, .slice h'.B n'.items.length h'.b] nodeT)) := ((Below.refl _ _).alloc (Nat.le_refl _) _).alloc (by simp) _
  have k1 : ((w.alloc (.cells #[.int .i64 n.kind, .string n.data, .slice h.A n.ptrs.length h.a, .int .i64 n.size, .int .i64 n.count, .slice h.B n.items.length h.b] nodeT)).alloc (.cells #[.int .i64 n'.kind, .string n'.data, .slice h'.A n'.ptrs.length h'.a, .int .i64 n'.size, .int .i64 n'.count, .slice h'.B n'.items.length h'.b] nodeT)).heap[w.heap.size]? = some (.cells #[.int .i64 n.kind, .string n.data, .slice h.A n.ptrs.length h.a, .int .i64 n.size, .int .i64 n.count, .slice h.B n.items.length h.b] nodeT (0, 0)) := (Below.heap_alloc _ _ _ (by simp)).trans (heap_alloc_new w _)
  have k2 : ((w.alloc (.cells #[.int .i64 n.kind, .string n.data, .slice h.A n.ptrs.length h.a, .int .i64 n.size, .int .i64 n.count, .slice h.B n.items.length h.b] nodeT)).alloc (.cells #[.int .i64 n'.kind, .string n'.data, .slice h'.A n'.ptrs.length h'.a, .int .i64 n'.size, .int .i64 n'.count, .slice h'.B n'.items.length h'.b] nodeT)).heap[w.heap.size + 1]? = some (.cells #[.int .i64 n'.kind, .string n'.data, .slice h'.A n'.ptrs.length h'.a, .int .i64 n'.size, .int .i64 n'.count, .slice h'.B n'.items.length h'.b] nodeT (0, 0)) := by have := heap_alloc_new (w.alloc (.cells #[.int .i64 n.kind, .string n.data, .slice h.A n.ptrs.length h.a, .int .i64 n.size, .int .i64 n.count, .slice h.B n.items.length h.b] nodeT)) (.cells #[.int .i64 n'.kind, .string n'.data, .slice h'.A n'.ptrs.length h'.a, .int .i64 n'.size, .int .i64 n'.count, .slice h'.B n'.items.length h'.b] nodeT); rwa [show (w.alloc (.cells #[.int .i64 n.kind, .string n.data, .slice h.A n.ptrs.length h.a, .int .i64 n.size, .int .i64 n.count, .slice h.B n.items.length h.b] nodeT)).heap.size = w.heap.size + 1 by simp] at this
  have hts : ((w.alloc (.cells #[.int .i64 n.kind, .string n.data, .slice h.A n.ptrs.length h.a, .int .i64 n.size, .int .i64 n.count, .slice h.B n.items.length h.b] nodeT)).alloc (.cells #[.int .i64 n'.kind, .string n'.data, .slice h'.A n'.ptrs.length h'.a, .int .i64 n'.size, .int .i64 n'.count, .slice h'.B n'.items.length h'.b] nodeT)).heap.size = w.heap.size + 2 := by simp
  have hs1 : ((w.alloc (.cells #[.int .i64 n.kind, .string n.data, .slice h.A n.ptrs.length h.a, .int .i64 n.size, .int .i64 n.count, .slice h.B n.items.length h.b] nodeT)).alloc (.cells #[.int .i64 n'.kind, .string n'.data, .slice h'.A n'.ptrs.length h'.a, .int .i64 n'.size, .int .i64 n'.count, .slice h'.B n'.items.length h'.b] nodeT)).os = w.os ∧ ((w.alloc (.cells #[.int .i64 n.kind, .string n.data, .slice h.A n.ptrs.length h.a, .int .i64 n.size, .int .i64 n.count, .slice h.B n.items.length h.b] nodeT)).alloc (.cells #[.int .i64 n'.kind, .string n'.data, .slice h'.A n'.ptrs.length h'.a, .int .i64 n'.size, .int .i64 n'.count, .slice h'.B n'.items.length h'.b] nodeT)).tape = w.tape := ⟨rfl, rfl⟩
  have HN := Lib.hid ((hn.below hba).weak (S' := Clean ((w.alloc (.cells #[.int .i64 n.kind, .string n.data, .slice h.A n.ptrs.length h.a, .int .i64 n.size, .int .i64 n.count, .slice h.B n.items.length h.b] nodeT)).alloc (.cells #[.int .i64 n'.kind, .string n'.data, .slice h'.A n'.ptrs.length h'.a, .int .i64 n'.size, .int .i64 n'.count, .slice h'.B n'.items.length h'.b] nodeT))) (fun k hk => clean_below hk hba))
  have HN' := Lib.hid ((hn'.below hba).weak (S' := Clean ((w.alloc (.cells #[.int .i64 n.kind, .string n.data, .slice h.A n.ptrs.length h.a, .int .i64 n.size, .int .i64 n.count, .slice h.B n.items.length h.b] nodeT)).alloc (.cells #[.int .i64 n'.kind, .string n'.data, .slice h'.A n'.ptrs.length h'.a, .int .i64 n'.size, .int .i64 n'.count, .slice h'.B n'.items.length h'.b] nodeT))) (fun k hk => clean_below hk hba))
  have HL0 : Hid (Lies ((w.alloc (.cells #[.int .i64 n.kind, .string n.data, .slice h.A n.ptrs.length h.a, .int .i64 n.size, .int .i64 n.count, .slice h.B n.items.length h.b] nodeT)).alloc (.cells #[.int .i64 n'.kind, .string n'.data, .slice h'.A n'.ptrs.length h'.a, .int .i64 n'.size, .int .i64 n'.count, .slice h'.B n'.items.length h'.b] nodeT)) (Clean ((w.alloc (.cells #[.int .i64 n.kind, .string n.data, .slice h.A n.ptrs.length h.a, .int .i64 n.size, .int .i64 n.count, .slice h.B n.items.length h.b] nodeT)).alloc (.cells #[.int .i64 n'.kind, .string n'.data, .slice h'.A n'.ptrs.length h'.a, .int .i64 n'.size, .int .i64 n'.count, .slice h'.B n'.items.length h'.b] nodeT))) m ((⟨w.heap.size, 0, none⟩, ⟨w.heap.size + 1, 0, none⟩), (n, n'))) := Lib.hid ⟨⟨_, _, k1⟩, ⟨_, _, k2⟩, h, h', m', ⟨(cells6 k1).1, (cells6 k1).2.1, (cells6 k1).2.2.1, (cells6 k1).2.2.2.1, (cells6 k1).2.2.2.2.1, (cells6 k1).2.2.2.2.2⟩, HN.out, ⟨(cells6 k2).1, (cells6 k2).2.1, (cells6 k2).2.2.1, (cells6 k2).2.2.2.1, (cells6 k2).2.2.2.2.1, (cells6 k2).2.2.2.2.2⟩, HN'.out⟩
  have HBA := Lib.hid hba
  have HTS := Lib.hid hts
  have HQ := Lib.hid hb
  have HT := Lib.hid ht
  clear hn hn' hba k1 k2 hts hb ht hs1
  have hmm := @run_makeMap Try.prog
  go_enter Try.func32, Try.ntmps32
  go_wp2_with fail
  generalize ((w.alloc (.cells #[.int .i64 n.kind, .string n.data, .slice h.A n.ptrs.length h.a, .int .i64 n.size, .int .i64 n.count, .slice h.B n.items.length h.b] nodeT)).alloc (.cells #[.int .i64 n'.kind, .string n'.data, .slice h'.A n'.ptrs.length h'.a, .int .i64 n'.size, .int .i64 n'.count, .slice h'.B n'.items.length h'.b] nodeT)) = W at *
  have hmbs : W.heap.size = w.heap.size + 1 + 1 := by have := HTS.out; omega
  generalize hmb : w.heap.size + 1 + 1 = mb at *
  have hmp : ((W.alloc (.map #[] 0)).alloc (.cells #[.pointer (some ⟨w.heap.size, 0, none⟩), .pointer (some ⟨w.heap.size + 1, 0, none⟩)] prT)).heap[mb]? = some (.map #[] 0) := heap_alloc_keep (by rw [← hmbs]; exact Array.getElem?_push_size) _
  have hb4 : Below W.heap.size W ((W.alloc (.map #[] 0)).alloc (.cells #[.pointer (some ⟨w.heap.size, 0, none⟩), .pointer (some ⟨w.heap.size + 1, 0, none⟩)] prT)) := ((Below.refl _ _).alloc (Nat.le_refl _) _).alloc (by simp) _
  have ho4 := own_one (W.alloc (.map #[] 0)) ((⟨w.heap.size, 0, none⟩, ⟨w.heap.size + 1, 0, none⟩), (n, n'))
  rw [show (W.alloc (.map #[] 0)).heap.size = mb + 1 by simp [hmbs]] at ho4
  have HI0 : Hid (Inv W (Clean W) m n n' [((⟨w.heap.size, 0, none⟩, ⟨w.heap.size + 1, 0, none⟩), (n, n'))] [] []) := Lib.hid ⟨fun t ht => by obtain rfl := List.mem_singleton.1 ht; exact HL0.out, fun a ha => (by cases ha), fun d hd => (by cases hd), by simp, fun e t ht => by obtain rfl := List.mem_singleton.1 ht; exact e⟩
  have HM4 : Hid (MapSt ((W.alloc (.map #[] 0)).alloc (.cells #[.pointer (some ⟨w.heap.size, 0, none⟩), .pointer (some ⟨w.heap.size + 1, 0, none⟩)] prT)) mb []) := Lib.hid ⟨_, _, hmp, rfl⟩
  have HB4 := Lib.hid hb4
  have HO4 := Lib.hid ho4
  have HMB := Lib.hid hmb
  clear hmp hb4 ho4 HL0 hmb HN HN'
  go_loopg [6] (1 + totN m n) (fun g v wr => ∃ (A : Option Addr) (len cap : Nat) (G : List PT) (K : List (Addr × Addr)) (D : List (Nd × Nd)), v = .slice A len cap ∧ len = G.length ∧ wt m G = g ∧ g ≤ 2000001 ∧ Hid (wr.ownsRow (mb + 1) prT 2 (.slice A len cap) G.length (rowP G)) ∧ Hid (Inv W (Clean W) m n n' G K D) ∧ Hid (MapSt wr mb K) ∧ Hid (Below W.heap.size W wr))
  case atStart => exact ⟨_, 1, 1, _, [], [], rfl, rfl, Nat.add_zero _, by have := HT.out; omega, HO4, HI0, HM4, HB4⟩
  case round =>
    obtain ⟨A, len, cap, G, K, D, rfl, hlen, hwt, hg, HO, HI, HM, HB⟩ := hrel
    have hGw := wt_len m G
    by_cases h0 : len = 0
    · subst h0
      obtain rfl : G = [] := List.eq_nil_of_length_eq_zero hlen.symm
      obtain rfl : b = true := HQ.out.2 HI.out.end_
      clear hmm hlen hwt hg hGw
      go_wp2
      go_ret
      exact ⟨rfl, HBA.out.trans (HB.out.mono HBA.out.size)⟩
    · obtain ⟨k, rfl⟩ : ∃ k, len = k + 1 := ⟨len - 1, by omega⟩
      obtain ⟨G', t, rfl⟩ := concat_of G (by omega)
      have hk' : G'.length = k := by simp at hlen; omega
      subst hk'
      have hkb : G'.length ≤ 2000001 := by omega
      obtain ⟨g, rfl, hgB, hcap, hgs, hcell⟩ := own_open (by have := HO.out; rw [show (G' ++ [t]).length = G'.length + 1 by simp] at this; exact this)
      have hl2 := rowP_last G' t
      have c0 := hcell _ _ hl2.1
      have c1 := hcell _ _ hl2.2
      have HO1 := Lib.hid (own_pop (by have := HO.out; rw [show (G' ++ [t]).length = G'.length + 1 by simp] at this; exact this))
      have hadd : (⟨g, 0, none⟩ : Addr).add (G'.length * 2) = ⟨g, G'.length * 2, none⟩ := add_zero0 _ _
      have hwr : IntKind.i64.wrap (((G'.length + 1 : Nat) : Int) - 1) = (G'.length : Int) := by rw [IntKind.wrap_i64]; omega
      have hlt : (G'.length : Int) < ((G'.length + 1 : Nat) : Int) := by omega
      have hcp : (G'.length : Int) ≤ (cap : Int) := by omega
      have HC := Lib.hid hcell
      clear hl2 hcell h0 hlen hGw hmm
      have hw64 : wrap64 (G'.length : Int) = (G'.length : Int) := by unfold wrap64; omega
      have hlt0 : Lies W (Clean W) m t := HI.out.lies t (by simp)
      have hkeep : ∀ k, Clean W k → Clean wr k := fun k hk => by
        obtain ⟨c, T, hc⟩ := hk
        exact ⟨c, T, (HB.out.block k (row_lt hc)).trans hc⟩
      have hcl : ∀ a, (a = t.1 ∨ a ∈ K) → CleanP (wr.alloc (.cells #[.pointer (some t.1.1), .pointer (some t.1.2)] prT)) a := fun a ha => by
        have h1 : Clean W a.1.block ∧ Clean W a.2.block := by
          rcases ha with rfl | ha
          · exact ⟨hlt0.1, hlt0.2.1⟩
          · obtain ⟨d, hd, _⟩ := HI.out.keys a ha
            exact ⟨hd.1, hd.2.1⟩
        exact ⟨clean_below (hkeep _ h1.1) ((Below.refl _ _).alloc (Nat.le_refl _) _), clean_below (hkeep _ h1.2) ((Below.refl _ _).alloc (Nat.le_refl _) _)⟩
      have hM1 : MapSt (wr.alloc (.cells #[.pointer (some t.1.1), .pointer (some t.1.2)] prT)) mb K := by
        obtain ⟨es, cl, h1, h2⟩ := HM.out
        exact ⟨es, cl, heap_alloc_keep h1 _, h2⟩
      have hB1 := HB.out.alloc HB.out.size (.cells #[.pointer (some t.1.1), .pointer (some t.1.2)] prT)
      have hP1 := heap_alloc_new wr (.cells #[.pointer (some t.1.1), .pointer (some t.1.2)] prT)
      have HO2 := Lib.hid (HO1.out.alloc (.cells #[.pointer (some t.1.1), .pointer (some t.1.2)] prT))
      have hwt2 : wt m G' + (1 + totN m t.2.1) = gk := by rw [← hwt, wt_app]; rfl
      by_cases hin : t.1 ∈ K
      · have hlk := lookup_pr _ mb t.1 K hM1 (hcl _ (.inl rfl)) (fun b hb => hcl b (.inr hb)) true (iff_true_of hin)
        unfold kv at hlk
        have HM1 := Lib.hid hM1
        have HB1 := Lib.hid hB1
        have HS := Lib.hid (HI.out.skip hin)
        clear hcl hkeep hlt0 hM1 hB1 hin hP1 hwt
        go_wp2
        go_roundg (wt m G')
        case measure => omega
        case rel => exact ⟨_, G'.length, cap, G', K, D, rfl, rfl, rfl, by omega, HO2, HS, HM1, HB1⟩
      · have hlk := lookup_pr _ mb t.1 K hM1 (hcl _ (.inl rfl)) (fun b hb => hcl b (.inr hb)) false (iff_false_of hin)
        obtain ⟨Wm, hup, hMm, q1, q2, q3, q4, q5⟩ := update_pr _ mb t.1 K hM1 (hcl _ (.inl rfl)) (fun b hb => hcl b (.inr hb)) hin
        unfold kv at hlk hup
        have hsz : (wr.alloc (.cells #[.pointer (some t.1.1), .pointer (some t.1.2)] prT)).heap.size = wr.heap.size + 1 := by simp
        have hPm : Wm.heap[wr.heap.size]? = some (.cells #[.pointer (some t.1.1), .pointer (some t.1.2)] prT (0, 0)) := (q5 _ (by omega)).trans hP1
        have hBm : Below W.heap.size W Wm := ⟨q1.trans hB1.os, q2.trans hB1.tape, q3.trans hB1.output, by rw [q4]; exact hB1.size, fun k hk => (q5 k (by omega)).trans (hB1.block k hk)⟩
        have hOm : Wm.ownsRow (mb + 1) prT 2 (.slice (some ⟨g, 0, none⟩) G'.length cap) G'.length (rowP G') := own_keep HO2.out (fun k h1 _ => q5 k (by omega))
        have hb' : Below w.heap.size w Wm := HBA.out.trans (hBm.mono HBA.out.size)
        obtain ⟨sA, sB, hx, hy, my, nx, ax, ny, ay⟩ := hlt0
        have HCX : Hid (∀ V : World, Below W.heap.size W V → NdCell V t.1.1 t.2.1 hx ∧ NdCell V t.1.2 t.2.2 hy) := Lib.hid fun V hV => ⟨cell_below hV _ _ _ nx, cell_below hV _ _ _ ny⟩
        have HSP := Lib.hid (sameParts_a t.1.1 t.1.2 t.2.1 t.2.2 hx hy Wm (HCX.out Wm hBm).1 (HCX.out Wm hBm).2 ax.2.1.len ax.2.2.len ay.2.1.len ay.2.2.len)
        have HAX := Lib.hid (And.intro ax ay)
        have HPm := Lib.hid hPm
        have HMm := Lib.hid hMm
        have HBm := Lib.hid hBm
        have HOm := Lib.hid hOm
        have HBW := Lib.hid hb'
        have p0 : Wm.cell? ⟨wr.heap.size, 0, none⟩ = some (.pointer (some t.1.1)) := by rw [cell_of_row _ _ _ _ _ _ hPm]; rfl
        have p1 : Wm.cell? ⟨wr.heap.size, 1, none⟩ = some (.pointer (some t.1.2)) := by rw [cell_of_row _ _ _ _ _ _ hPm]; rfl
        clear hcl hkeep hM1 hB1 hP1 q1 q2 q3 q4 q5 hPm hBm hOm hMm hb' nx ny ax ay sA sB hin
        go_wp2_with fail
        refine HSP.out.mono ?_
        rintro e w5 ⟨rfl, hb5⟩
        have HP5 := Lib.hid ((hb5.block _ (row_lt HPm.out)).trans HPm.out)
        have HM5 : Hid (MapSt w5 mb (K ++ [t.1])) := Lib.hid (by
          obtain ⟨es, cl, h1, h2⟩ := HMm.out
          exact ⟨es, cl, (hb5.block _ (row_lt h1)).trans h1, h2⟩)
        have HB5 := Lib.hid (HBm.out.trans (hb5.mono HBm.out.size))
        have HO5 := Lib.hid (own_keep HOm.out (fun k _ hk => hb5.block k hk))
        have HBW5 := Lib.hid (HBW.out.trans (hb5.mono HBW.out.size))
        clear hb5 p0 p1 HMm HBm HOm HBW HSP HPm
        cases hpp : parts6 t.2.1 t.2.2
        · obtain rfl : b = false := bool_no HQ.out (fun e => by
            have := (parts6_iff _ _).2 (same_parts (HI.out.sound e t (by simp)))
            rw [hpp] at this; cases this)
          go_wp2
          go_ret
          exact ⟨rfl, HBW5.out⟩
        · have hpe := (parts6_iff _ _).1 hpp
          obtain ⟨l1, l2⟩ := parts_lens hpe
          have HPE := Lib.hid hpe
          clear hpp hpe hlk hup hsz c0 c1 hadd hwr hlt hcp hw64 hcap
          have htl : totN m t.2.1 ≤ 2000000 := by omega
          have hpl := totL_len' HAX.out.1.2.1 (by unfold totN at htl; omega)
          have hil := totL_len' HAX.out.1.2.2 (by unfold totN at htl; omega)
          obtain ⟨H1, hH1⟩ : ∃ H1, H1 = pts (hx.A.getD default) (hy.A.getD default) 0 t.2.1.ptrs t.2.2.ptrs := ⟨_, rfl⟩
          obtain ⟨H2, hH2⟩ : ∃ H2, H2 = pts (hx.B.getD default) (hy.B.getD default) 0 t.2.1.items t.2.2.items := ⟨_, rfl⟩
          have hw1 : wt m H1 ≤ totL m t.2.1.ptrs := hH1 ▸ pts_wt _ _ _ HAX.out.1.2.1
          have hw2 : wt m H2 ≤ totL m t.2.1.items := hH2 ▸ pts_wt _ _ _ HAX.out.1.2.2
          have hwt3 : wt m (G' ++ H1 ++ H2) < gk ∧ wt m (G' ++ H1 ++ H2) ≤ 2000001 := by
            rw [wt_app, wt_app]
            have : totN m t.2.1 = t.2.1.data.size + totL m t.2.1.ptrs + totL m t.2.1.items := rfl
            omega
          have hlen3 : G'.length + H1.length + H2.length ≤ 2000001 := by
            have := wt_len m (G' ++ H1 ++ H2)
            simp only [List.length_append] at this
            omega
          have HINV : Hid (Inv W (Clean W) m n n' (G' ++ H1 ++ H2) (K ++ [t.1]) (t.2 :: D)) := Lib.hid (HI.out.step HPE.out
            (by rw [hH1]; exact pts_lies HAX.out.1.2.1 HAX.out.2.2.1 l1) (by rw [hH2]; exact pts_lies HAX.out.1.2.2 HAX.out.2.2.2 l2)
            (by rw [hH1]; exact pts_within _ _ _ _) (by rw [hH2]; exact pts_within _ _ _ _)
            (fun e => by rw [hH1]; exact pts_same _ _ (by rw [e])) (fun e => by rw [hH2]; exact pts_same _ _ (by rw [e])))
          have HPR1 : Hid (∀ V : World, Calls Try.prog 63 #[.slice hx.A t.2.1.ptrs.length hx.a, .slice hy.A t.2.2.ptrs.length hy.a] V fun e w' => ∃ v, e = .returned v ∧ w'.ownsRow V.heap.size prT 2 v H1.length (rowP H1) ∧ Below V.heap.size V w') := Lib.hid fun V => by
            have := pairsOf_a hx.A hy.A hx.a hy.a t.2.1.ptrs t.2.2.ptrs V (nds_head HAX.out.1.2.1) (nds_head HAX.out.2.2.1) l1 hpl
            unfold PairsP at this
            rw [← hH1] at this
            exact this
          have HPR2 : Hid (∀ V : World, Calls Try.prog 63 #[.slice hx.B t.2.1.items.length hx.b, .slice hy.B t.2.2.items.length hy.b] V fun e w' => ∃ v, e = .returned v ∧ w'.ownsRow V.heap.size prT 2 v H2.length (rowP H2) ∧ Below V.heap.size V w') := Lib.hid fun V => by
            have := pairsOf_a hx.B hy.B hx.b hy.b t.2.1.items t.2.2.items V (nds_head HAX.out.1.2.2) (nds_head HAX.out.2.2.2) l2 hil
            unfold PairsP at this
            rw [← hH2] at this
            exact this
          have hPlt := row_lt HP5.out
          have hW1 : W.heap.size ≤ w5.heap.size := HB5.out.size
          have hgw5 : mb + 1 ≤ w5.heap.size := by omega
          obtain ⟨c0, c1, c2, c3, c4, c5⟩ := (HCX.out w5 HB5.out).1
          obtain ⟨d0, d1, d2, d3, d4, d5⟩ := (HCX.out w5 HB5.out).2
          have p0 : w5.cell? ⟨wr.heap.size, 0, none⟩ = some (.pointer (some t.1.1)) := by rw [cell_of_row _ _ _ _ _ _ HP5.out]; rfl
          have p1 : w5.cell? ⟨wr.heap.size, 1, none⟩ = some (.pointer (some t.1.2)) := by rw [cell_of_row _ _ _ _ _ _ HP5.out]; rfl
          clear hH1 hH2 hw1 hw2 htl hpl hil l1 l2 hwt
          go_wp2_with fail
          go_region_law (first | (refine step_append_pts rfl (.tmp 36) (.tmp 47) rfl (mb + 1) w5.heap.size _ v2 G'.length (rowP G') H1 rfl rfl HO6.out HV2.out (by omega) (by omega) ?_; intro A7 c7 w7 hown7 hgrow7) | (go_simp; go_at_call 63; (with_reducible refine (HPR1.out _).mono ?_); rintro e w6 ⟨v2, rfl, hown2, hb6⟩; have hs6 : w5.heap.size ≤ w6.heap.size := hb6.size; have HV2 := Lib.hid hown2; have HB6 := Lib.hid hb6; have HO6 := Lib.hid (own_keep (w := w5) HO5.out (fun k _ hk => hb6.block k hk)); clear hb6 hown2))
          all_goals
            have hg7 : w6.grownBy w7 (some g) := hgrow7.out
            have hb6 : Below W.heap.size W w6 := HB5.out.drew.trans (HB6.out.mono HB5.out.size)
            have hb7 : Below W.heap.size W w7 := hb6.grown hg7 hb6.size (fun k hk => by obtain rfl := Option.some.inj hk; omega)
            have HB7 := Lib.hid hb7
            have hgP : wr.heap.size ≠ g := by omega
            have HP7 : Hid (w7.heap[wr.heap.size]? = some (.cells #[.pointer (some t.1.1), .pointer (some t.1.2)] prT (0, 0))) := Lib.hid ((hg7.block _ (by omega) (fun e => hgP (Option.some.inj e))).trans ((HB6.out.block _ hPlt).trans HP5.out))
            have HM7 : Hid (MapSt w7 mb (K ++ [t.1])) := Lib.hid (by
              obtain ⟨es, cl, h1, h2⟩ := HM5.out
              have h3 := row_lt h1
              exact ⟨es, cl, (hg7.block _ (by omega) (fun e => by have := Option.some.inj e; omega)).trans ((HB6.out.block _ h3).trans h1), h2⟩)
            have HO7 : Hid (w7.ownsRow (mb + 1) prT 2 (.slice A7 (G'.length + H1.length) c7) (G'.length + H1.length) (rowP (G' ++ H1))) := Lib.hid (by rw [rowP_app]; exact hown7.out)
            have hs7 : mb + 1 ≤ w7.heap.size := by have := hg7.size; omega
            have hPlt7 := row_lt HP7.out
            clear c0 c1 c2 c3 c4 c5 d0 d1 d2 d3 d4 d5 p0 p1 hg7 hb6 hb7 hown7 hgrow7 HV2 HO6 HB6
            obtain ⟨c0, c1, c2, c3, c4, c5⟩ := (HCX.out w7 HB7.out).1
            obtain ⟨d0, d1, d2, d3, d4, d5⟩ := (HCX.out w7 HB7.out).2
            have p0 : w7.cell? ⟨wr.heap.size, 0, none⟩ = some (.pointer (some t.1.1)) := by rw [cell_of_row _ _ _ _ _ _ HP7.out]; rfl
            have p1 : w7.cell? ⟨wr.heap.size, 1, none⟩ = some (.pointer (some t.1.2)) := by rw [cell_of_row _ _ _ _ _ _ HP7.out]; rfl
            go_wp2_with fail
            go_region_law (first | (refine step_append_pts rfl (.tmp 49) (.tmp 60) rfl (mb + 1) w7.heap.size _ v3 (G'.length + H1.length) (rowP (G' ++ H1)) H2 rfl rfl HO8.out HV3.out (by omega) (by omega) ?_; intro A9 c9 w9 hown9 hgrow9) | (go_simp; go_at_call 63; (with_reducible refine (HPR2.out _).mono ?_); rintro e w8 ⟨v3, rfl, hown3, hb8⟩; have hs8 : w7.heap.size ≤ w8.heap.size := hb8.size; have HV3 := Lib.hid hown3; have HB8 := Lib.hid hb8; have HO8 := Lib.hid (own_keep (w := w7) HO7.out (fun k _ hk => hb8.block k hk)); clear hb8 hown3))
            all_goals
              have hlt9 : ∀ k, (Value.slice A7 (G'.length + H1.length) c7).ownBlock = some k → mb + 1 ≤ k := fun k hk => (HO8.out.lt k hk).1
              have hg9 : w8.grownBy w9 (Value.slice A7 (G'.length + H1.length) c7).ownBlock := hgrow9.out
              have hb8 : Below W.heap.size W w8 := HB7.out.drew.trans (HB8.out.mono HB7.out.size)
              have HB9 := Lib.hid (hb8.grown hg9 hb8.size (fun k hk => by have := hlt9 k hk; omega))
              have HM9 : Hid (MapSt w9 mb (K ++ [t.1])) := Lib.hid (by
                obtain ⟨es, cl, h1, h2⟩ := HM7.out
                have h3 := row_lt h1
                exact ⟨es, cl, (hg9.block _ (by omega) (fun e => by have := hlt9 _ e.symm; omega)).trans ((HB8.out.block _ h3).trans h1), h2⟩)
              have HO9 : Hid (w9.ownsRow (mb + 1) prT 2 (.slice A9 (G'.length + H1.length + H2.length) c9) (G' ++ H1 ++ H2).length (rowP (G' ++ H1 ++ H2))) := Lib.hid (by rw [rowP_app (G' ++ H1) H2, List.length_append, List.length_append]; exact hown9.out)
              clear hlt9 hg9 hb8 hown9 hgrow9 c0 c1 c2 c3 c4 c5 d0 d1 d2 d3 d4 d5 p0 p1
              go_wp2
              go_roundg (wt m (G' ++ H1 ++ H2))
              case measure => exact hwt3.1
              case rel => exact ⟨A9, G'.length + H1.length + H2.length, c9, G' ++ H1 ++ H2, K ++ [t.1], t.2 :: D, rfl, by simp only [List.length_append], rfl, hwt3.2, HO9, HINV, HM9, HB9⟩
end Go.Proofs.Ytmloegdipphbkaa

/- Alike: the program's. -/
namespace Go.Proofs.Ytmloegdipphbkaa
open Go.RowKit Go.Deep
theorem kc {V V' : World} {a : Addr} {v : Value} (hb : Below V.heap.size V V') (h : V.cell? a = some v) : V'.cell? a = some v := (hb.cell (World.block_lt_of_cell? V a h)).trans h
set_option maxHeartbeats 8000000 in
set_option maxRecDepth 100000 in
theorem implAlike_a (m m' : Nat) (n n' : Nd) (h h' : Hd) (w : World) (S S' : Nat → Prop) (b : Bool) (hn : NdAt w S m n h) (hn' : NdAt w S' m' n' h') (ht : totN m n ≤ 2000000) (ht' : totN m' n' ≤ 2000000) (hb : b = true ↔ (nodeOk n = true ∧ nodeOk n' = true ∧ canN n = canN n')) :
    Calls Try.prog 14 #[.agg #[.int .i64 n.kind, .string n.data, .slice h.A n.ptrs.length h.a, .int .i64 n.size, .int .i64 n.count, .slice h.B n.items.length h.b], .agg #[.int .i64 n'.kind, .string n'.data, .slice h'.A n'.ptrs.length h'.a, .int .i64 n'.size, .int .i64 n'.count, .slice h'.B n'.items.length h'.b]] w fun e w' => e = .returned (.bool b) ∧ Below w.heap.size w w' := by
  have HO1 : Hid (∀ W : World, Below w.heap.size w W → Calls Try.prog 13 #[.agg #[.int .i64 n.kind, .string n.data, .slice h.A n.ptrs.length h.a, .int .i64 n.size, .int .i64 n.count, .slice h.B n.items.length h.b]] W fun e w' => e = .returned (.bool (nodeOk n)) ∧ Below W.heap.size W w') := Lib.hid fun W hW => implNodeOk_a m n h W S (hn.below hW) ht
  have HO2 : Hid (∀ W : World, Below w.heap.size w W → Calls Try.prog 13 #[.agg #[.int .i64 n'.kind, .string n'.data, .slice h'.A n'.ptrs.length h'.a, .int .i64 n'.size, .int .i64 n'.count, .slice h'.B n'.items.length h'.b]] W fun e w' => e = .returned (.bool (nodeOk n')) ∧ Below W.heap.size W w') := Lib.hid fun W hW => implNodeOk_a m' n' h' W S' (hn'.below hW) ht'
  have HC1 : Hid (nodeOk n = true → ∀ W : World, Below w.heap.size w W → Calls Try.prog 9 #[.agg #[.int .i64 n.kind, .string n.data, .slice h.A n.ptrs.length h.a, .int .i64 n.size, .int .i64 n.count, .slice h.B n.items.length h.b]] W (NewO (m + 1) (canN n) W)) := Lib.hid fun hok W hW => by
    have := implCanon_a m n h W S (hn.below hW) ht
    unfold canX at this
    rwa [if_pos hok] at this
  have HC2 : Hid (nodeOk n' = true → ∀ W : World, Below w.heap.size w W → Calls Try.prog 9 #[.agg #[.int .i64 n'.kind, .string n'.data, .slice h'.A n'.ptrs.length h'.a, .int .i64 n'.size, .int .i64 n'.count, .slice h'.B n'.items.length h'.b]] W (NewO (m' + 1) (canN n') W)) := Lib.hid fun hok W hW => by
    have := implCanon_a m' n' h' W S' (hn'.below hW) ht'
    unfold canX at this
    rwa [if_pos hok] at this
  have HTZ : Hid (nodeOk n = true → ∀ (W : World) (hy : Hd) (bs : List Nat), OwN W (m + 1) (canN n) hy bs → totN (m + 1) (canN n) ≤ 2000000) := Lib.hid fun hok W hy bs ho => by
    rw [totN_siz ho.nd]
    have h1 := siz_can 8 n (node_ok hok).1
    rw [← totN_siz hn] at h1
    omega
  have hba : Below w.heap.size w ((w.alloc (.cells #[.int .i64 n.kind, .string n.data, .slice h.A n.ptrs.length h.a, .int .i64 n.size, .int .i64 n.count, .slice h.B n.items.length h.b] nodeT)).alloc (.cells #[.int .i64 n'.kind, .string n'.data, .slice h'.A n'.ptrs.length h'.a, .int .i64 n'.size, .int .i64 n'.count, .slice h'.B n'.items.length h'.b] nodeT)) := ((Below.refl _ w).alloc (Nat.le_refl _) _).alloc (by simp) _
  have hx0 : ((w.alloc (.cells #[.int .i64 n.kind, .string n.data, .slice h.A n.ptrs.length h.a, .int .i64 n.size, .int .i64 n.count, .slice h.B n.items.length h.b] nodeT)).alloc (.cells #[.int .i64 n'.kind, .string n'.data, .slice h'.A n'.ptrs.length h'.a, .int .i64 n'.size, .int .i64 n'.count, .slice h'.B n'.items.length h'.b] nodeT)).heap[w.heap.size]? = some (.cells #[.int .i64 n.kind, .string n.data, .slice h.A n.ptrs.length h.a, .int .i64 n.size, .int .i64 n.count, .slice h.B n.items.length h.b] nodeT (0, 0)) := heap_alloc_keep (heap_alloc_new w _) _
  have hy0 : ((w.alloc (.cells #[.int .i64 n.kind, .string n.data, .slice h.A n.ptrs.length h.a, .int .i64 n.size, .int .i64 n.count, .slice h.B n.items.length h.b] nodeT)).alloc (.cells #[.int .i64 n'.kind, .string n'.data, .slice h'.A n'.ptrs.length h'.a, .int .i64 n'.size, .int .i64 n'.count, .slice h'.B n'.items.length h'.b] nodeT)).heap[w.heap.size + 1]? = some (.cells #[.int .i64 n'.kind, .string n'.data, .slice h'.A n'.ptrs.length h'.a, .int .i64 n'.size, .int .i64 n'.count, .slice h'.B n'.items.length h'.b] nodeT (0, 0)) := by have := heap_alloc_new (w.alloc (.cells #[.int .i64 n.kind, .string n.data, .slice h.A n.ptrs.length h.a, .int .i64 n.size, .int .i64 n.count, .slice h.B n.items.length h.b] nodeT)) (.cells #[.int .i64 n'.kind, .string n'.data, .slice h'.A n'.ptrs.length h'.a, .int .i64 n'.size, .int .i64 n'.count, .slice h'.B n'.items.length h'.b] nodeT); rwa [show (w.alloc (.cells #[.int .i64 n.kind, .string n.data, .slice h.A n.ptrs.length h.a, .int .i64 n.size, .int .i64 n.count, .slice h.B n.items.length h.b] nodeT)).heap.size = w.heap.size + 1 by simp] at this
  have HBA := Lib.hid hba
  have HBB := Lib.hid hb
  obtain ⟨a0, a1, a2, a3, a4, a5⟩ := cells6 hx0
  obtain ⟨b0, b1, b2, b3, b4, b5⟩ := cells6 hy0
  clear hn hn' ht ht' hb hba hx0 hy0
  go_enter Try.func14, Try.ntmps14
  go_wp2_with fail
  generalize ((w.alloc (.cells #[.int .i64 n.kind, .string n.data, .slice h.A n.ptrs.length h.a, .int .i64 n.size, .int .i64 n.count, .slice h.B n.items.length h.b] nodeT)).alloc (.cells #[.int .i64 n'.kind, .string n'.data, .slice h'.A n'.ptrs.length h'.a, .int .i64 n'.size, .int .i64 n'.count, .slice h'.B n'.items.length h'.b] nodeT)) = W0 at *
  cases hok : nodeOk n
  · have hbf : b = false := bool_no HBB.out (fun h => by rw [hok] at h; cases h.1)
    subst hbf
    rw [hok] at HO1
    clear hok HC1 HC2 HTZ HBB
    have q0 := cell_regrown a0
    have q1 := cell_regrown a1
    have q2 := cell_regrown a2
    have q3 := cell_regrown a3
    have q4 := cell_regrown a4
    have q5 := cell_regrown a5
    have r0 := cell_regrown b0
    have r1 := cell_regrown b1
    have r2 := cell_regrown b2
    have r3 := cell_regrown b3
    have r4 := cell_regrown b4
    have r5 := cell_regrown b5
    have hwx : ∀ d os, Below w.heap.size w («Sort».grow (redrawn W0 d) os) := fun d os => HBA.out.trans ((below_regrown W0 d os).mono HBA.out.size)
    refine wp_region_quiet_below (by kernel_rfl) (by kernel_rfl) ?_
    repeat (first | go_big_quiet_step (first | (go_at_call 13; first | with_reducible exact Calls.regrown_of (HO1.out _ (hwx _ _)) | with_reducible exact Calls.regrown_of (HO2.out _ (hwx _ _)))) | quiet_step (first | (go_at_call 13; first | with_reducible exact Calls.regrown_of (HO1.out _ (hwx _ _)) | with_reducible exact Calls.regrown_of (HO2.out _ (hwx _ _)))))
    refine wpQuiet_nil ?_
    intro _ hw'
    obtain ⟨⟨dq, osq⟩, hw''⟩ := hw'
    subst hw''
    have HFIN := Lib.hid (hwx dq osq)
    clear hwx q0 q1 q2 q3 q4 q5 r0 r1 r2 r3 r4 r5 a0 a1 a2 a3 a4 a5 b0 b1 b2 b3 b4 b5
    generalize «Sort».grow (redrawn W0 dq) osq = W1 at HFIN ⊢
    go_wp2
    go_ret
    exact ⟨rfl, HFIN.out⟩
  · cases hok' : nodeOk n'
    · have hbf : b = false := bool_no HBB.out (fun h => by rw [hok'] at h; cases h.2.1)
      subst hbf
      rw [hok] at HO1
      rw [hok'] at HO2
      clear hok hok' HC1 HC2 HTZ HBB
      have q0 := cell_regrown a0
      have q1 := cell_regrown a1
      have q2 := cell_regrown a2
      have q3 := cell_regrown a3
      have q4 := cell_regrown a4
      have q5 := cell_regrown a5
      have r0 := cell_regrown b0
      have r1 := cell_regrown b1
      have r2 := cell_regrown b2
      have r3 := cell_regrown b3
      have r4 := cell_regrown b4
      have r5 := cell_regrown b5
      have hwx : ∀ d os, Below w.heap.size w («Sort».grow (redrawn W0 d) os) := fun d os => HBA.out.trans ((below_regrown W0 d os).mono HBA.out.size)
      refine wp_region_quiet_below (by kernel_rfl) (by kernel_rfl) ?_
      repeat (first | go_big_quiet_step (first | (go_at_call 13; first | with_reducible exact Calls.regrown_of (HO1.out _ (hwx _ _)) | with_reducible exact Calls.regrown_of (HO2.out _ (hwx _ _)))) | quiet_step (first | (go_at_call 13; first | with_reducible exact Calls.regrown_of (HO1.out _ (hwx _ _)) | with_reducible exact Calls.regrown_of (HO2.out _ (hwx _ _)))))
      refine wpQuiet_nil ?_
      intro _ hw'
      obtain ⟨⟨dq, osq⟩, hw''⟩ := hw'
      subst hw''
      have HFIN := Lib.hid (hwx dq osq)
      clear hwx q0 q1 q2 q3 q4 q5 r0 r1 r2 r3 r4 r5 a0 a1 a2 a3 a4 a5 b0 b1 b2 b3 b4 b5
      generalize «Sort».grow (redrawn W0 dq) osq = W1 at HFIN ⊢
      go_wp2
      go_ret
      exact ⟨rfl, HFIN.out⟩
    · have HBZ : Hid (b = true ↔ canN n = canN n') := Lib.hid (HBB.out.trans ⟨fun h => h.2.2, fun h => ⟨hok, hok', h⟩⟩)
      replace HC1 := Lib.hid (HC1.out hok)
      replace HC2 := Lib.hid (HC2.out hok')
      replace HTZ := Lib.hid (HTZ.out hok)
      rw [hok] at HO1
      rw [hok'] at HO2
      clear hok hok' HBB
      unfold NewO at HC1 HC2
      generalize canN n = z at *
      generalize canN n' = z' at *
      first | go_region_held3 (fun V => (V.cell? ⟨w.heap.size, 0, none⟩ = some (.int .i64 n.kind) ∧ V.cell? ⟨w.heap.size, 1, none⟩ = some (.string n.data) ∧ V.cell? ⟨w.heap.size, 2, none⟩ = some (.slice h.A n.ptrs.length h.a) ∧ V.cell? ⟨w.heap.size, 3, none⟩ = some (.int .i64 n.size) ∧ V.cell? ⟨w.heap.size, 4, none⟩ = some (.int .i64 n.count) ∧ V.cell? ⟨w.heap.size, 5, none⟩ = some (.slice h.B n.items.length h.b)) ∧ (V.cell? ⟨w.heap.size + 1, 0, none⟩ = some (.int .i64 n'.kind) ∧ V.cell? ⟨w.heap.size + 1, 1, none⟩ = some (.string n'.data) ∧ V.cell? ⟨w.heap.size + 1, 2, none⟩ = some (.slice h'.A n'.ptrs.length h'.a) ∧ V.cell? ⟨w.heap.size + 1, 3, none⟩ = some (.int .i64 n'.size) ∧ V.cell? ⟨w.heap.size + 1, 4, none⟩ = some (.int .i64 n'.count) ∧ V.cell? ⟨w.heap.size + 1, 5, none⟩ = some (.slice h'.B n'.items.length h'.b)) ∧ Below w.heap.size w V) ((first | exact ⟨⟨a0, a1, a2, a3, a4, a5⟩, ⟨b0, b1, b2, b3, b4, b5⟩, HBA.out.drew⟩ | (obtain ⟨⟨s0, s1, s2, s3, s4, s5⟩, ⟨t0, t1, t2, t3, t4, t5⟩, sb⟩ := ‹(_ ∧ _) ∧ (_ ∧ _) ∧ Below w.heap.size w _›; exact ⟨⟨kc hbq s0, kc hbq s1, kc hbq s2, kc hbq s3, kc hbq s4, kc hbq s5⟩, ⟨kc hbq t0, kc hbq t1, kc hbq t2, kc hbq t3, kc hbq t4, kc hbq t5⟩, sb.trans (hbq.mono sb.size)⟩))) (first | (go_at_call 13; first | ((with_reducible refine (HO1.out _ (by have hh := ‹(_ ∧ _) ∧ (_ ∧ _) ∧ Below w.heap.size w _›; exact hh.2.2)).mono ?_); rintro e w4 ⟨rfl, hbq⟩) | ((with_reducible refine (HO2.out _ (by have hh := ‹(_ ∧ _) ∧ (_ ∧ _) ∧ Below w.heap.size w _›; exact hh.2.2)).mono ?_); rintro e w4 ⟨rfl, hbq⟩)) | (go_at_call 9; first | ((with_reducible refine (HC1.out _ (by have hh := ‹(_ ∧ _) ∧ (_ ∧ _) ∧ Below w.heap.size w _›; exact hh.2.2)).mono ?_); rintro e w4 ⟨hy1, bs1, rfl, hown1, hnd1, hge1, hbq⟩) | ((with_reducible refine (HC2.out _ (by have hh := ‹(_ ∧ _) ∧ (_ ∧ _) ∧ Below w.heap.size w _›; exact hh.2.2)).mono ?_); rintro e w5 ⟨hy2, bs2, rfl, hown2, hnd2, hge2, hbq⟩; have hown3 := hown1.below hbq)) | (go_at_call 32; (with_reducible refine (implNodeSame_a (m + 1) (m' + 1) z z' hy1 hy2 _ b hown3.clean hown2.clean (HTZ.out _ _ _ hown3) HBZ.out).mono ?_); rintro e w6 ⟨rfl, hbq⟩)) | fail
      all_goals
        have hfin := ‹(_ ∧ _) ∧ (_ ∧ _) ∧ Below w.heap.size w _›
        have HFIN := Lib.hid hfin.2.2
        clear hfin
        go_wp2
        go_ret
        exact ⟨rfl, HFIN.out⟩
end Go.Proofs.Ytmloegdipphbkaa
