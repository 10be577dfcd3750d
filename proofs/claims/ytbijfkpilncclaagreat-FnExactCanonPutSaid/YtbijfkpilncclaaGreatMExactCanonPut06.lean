/- Texts of the proof of the law FnExactCanonPut, side by side: part 6. -/
import Derived.Deep.QuietTactic
import Derived.BigQuiet
import Derived.Test.YtbijfkpilncclaaGreatMExactCanonPut00
import Derived.Test.YtbijfkpilncclaaGreatMExactCanonPut01
import Derived.Test.YtbijfkpilncclaaGreatMExactCanonPut02
import Derived.Test.YtbijfkpilncclaaGreatMExactCanonPut03
import Derived.Test.YtbijfkpilncclaaGreatMExactCanonPut04
import Derived.Test.YtbijfkpilncclaaGreatMExactCanonPut05
/- The laws' own copies of nodes: in plain blocks. -/
namespace Go.Proofs.YtbijfkpilncclaaGreat
open Go.RowKit
/-- all blocks from B on are plain ones, of which nothing is frozen. -/
def Clean (w : World) (k : Nat) : Prop := ∃ cs T, w.heap[k]? = some (.cells cs T (0, 0))
def CleanFrom (B : Nat) (w : World) : Prop := ∀ k, B ≤ k → k < w.heap.size → Clean w k
theorem CleanFrom.refl (w : World) : CleanFrom w.heap.size w := fun k h1 h2 => by omega
theorem CleanFrom.alloc {B : Nat} {w : World} (h : CleanFrom B w) (cs : Array Value) (T : TypeId) : CleanFrom B (w.alloc (.cells cs T)) := fun k h1 h2 => by
  have hs : (w.alloc (.cells cs T)).heap.size = w.heap.size + 1 := by simp
  rcases Nat.lt_or_ge k w.heap.size with h3 | h3
  · obtain ⟨c, t, h4⟩ := h k h1 h3
    exact ⟨c, t, (Below.heap_alloc w _ k h3).trans h4⟩
  · obtain rfl : k = w.heap.size := by omega
    exact ⟨cs, T, heap_alloc_new w _⟩
theorem CleanFrom.setCell {B : Nat} {w : World} (h : CleanFrom B w) (p : Addr) (v : Value) : CleanFrom B (w.setCell p v) := fun k h1 h2 => by
  obtain ⟨c, t, h4⟩ := h k h1 (by simpa [World.setCell] using h2)
  by_cases hk : k = p.block
  · subst hk
    obtain ⟨b, o, s⟩ := p
    cases s with
    | none => exact ⟨c.setIfInBounds o v, t, by simp [World.setCell, Array.getElem?_modify, h4]⟩
    | some s => exact ⟨c, t, by simp [World.setCell, Array.getElem?_modify, h4]⟩
  · exact ⟨c, t, (Below.heap_setCell w p v k hk).trans h4⟩
theorem CleanFrom.call {B : Nat} {w w' : World} (h : CleanFrom B w) (hb : Below w.heap.size w w') (hc : CleanFrom w.heap.size w') : CleanFrom B w' := fun k h1 h2 => by
  rcases Nat.lt_or_ge k w.heap.size with h3 | h3
  · obtain ⟨c, t, h4⟩ := h k h1 h3
    exact ⟨c, t, (hb.block k h3).trans h4⟩
  · exact hc k h3 h2
theorem CleanFrom.mono {B B' : Nat} {w : World} (h : CleanFrom B w) (hB : B ≤ B') : CleanFrom B' w := fun k h1 h2 => h k (Nat.le_trans hB h1) h2
def NewNC (m : Nat) (n : Nd) (w : World) (e : Ending) (w' : World) : Prop := ∃ h : Hd, e = .returned (.agg #[.int .i64 n.kind, .string n.data, .slice h.A n.ptrs.length h.a, .int .i64 n.size, .int .i64 n.count, .slice h.B n.items.length h.b]) ∧ NdAt w' (From w.heap.size) m n h ∧ Below w.heap.size w w' ∧ CleanFrom w.heap.size w'
def NewSC (m : Nat) (l : List Nd) (w : World) (e : Ending) (w' : World) : Prop := ∃ (A : Option Addr) (c : Nat), e = .returned (.slice A l.length c) ∧ NdsAt w' (From w.heap.size) m A l ∧ Below w.heap.size w w' ∧ CleanFrom w.heap.size w'
def ToSC (m : Nat) : Prop := ∀ (A : Option Addr) (c : Nat) (l : List Nd) (w : World) (S : Nat → Prop), NdsAt w S m A l → totL m l ≤ 2000000 →
  Calls Tryz.prog 26 #[.slice A l.length c] w (NewSC m l w)
def ToNC (m : Nat) : Prop := ∀ (n : Nd) (h : Hd) (w : World) (S : Nat → Prop), NdAt w S m n h → totN m n ≤ 2000000 →
  Calls Tryz.prog 9 #[.agg #[.int .i64 n.kind, .string n.data, .slice h.A n.ptrs.length h.a, .int .i64 n.size, .int .i64 n.count, .slice h.B n.items.length h.b]] w (NewNC m n w)
set_option maxHeartbeats 4000000 in
set_option maxRecDepth 100000 in
theorem toNC_of (m : Nat) (hS : ToSC m) : ToNC m := by
  intro n h w S hn ht
  have HS := Lib.hid hS
  have HN := Lib.hid hn
  have HT : Hid (totN m n ≤ 2000000) := Lib.hid ht
  have HT1 : Hid (totL m n.ptrs ≤ 2000000) := Lib.hid (by unfold totN at ht; omega)
  have HT2 : Hid (totL m n.items ≤ 2000000) := Lib.hid (by unfold totN at ht; omega)
  clear hS hn ht
  go_enter Tryz.func9, Tryz.ntmps9
  go_wp2_with fail
  have hb0 : Below w.heap.size w (((w.alloc (.cells #[.int .i64 n.kind, .string n.data, .slice h.A n.ptrs.length h.a, .int .i64 n.size, .int .i64 n.count, .slice h.B n.items.length h.b] 24)).alloc (.cells #[.int .i64 0, .string { data := #[] }, .slice none 0 0, .int .i64 0, .int .i64 0, .slice none 0 0] nodeT)).alloc (.cells #[.int .i64 n.kind, .string n.data, .slice none 0 0, .int .i64 0, .int .i64 0, .slice none 0 0] nodeT)) := (((Below.refl _ w).alloc (Nat.le_refl _) _).alloc (by simp) _).alloc (by simp; omega) _
  have k0 : (((w.alloc (.cells #[.int .i64 n.kind, .string n.data, .slice h.A n.ptrs.length h.a, .int .i64 n.size, .int .i64 n.count, .slice h.B n.items.length h.b] 24)).alloc (.cells #[.int .i64 0, .string { data := #[] }, .slice none 0 0, .int .i64 0, .int .i64 0, .slice none 0 0] nodeT)).alloc (.cells #[.int .i64 n.kind, .string n.data, .slice none 0 0, .int .i64 0, .int .i64 0, .slice none 0 0] nodeT)).heap[w.heap.size]? = some (.cells #[.int .i64 n.kind, .string n.data, .slice h.A n.ptrs.length h.a, .int .i64 n.size, .int .i64 n.count, .slice h.B n.items.length h.b] 24 (0, 0)) := (Below.heap_alloc _ _ _ (by simp; omega)).trans ((Below.heap_alloc _ _ _ (by simp)).trans (heap_alloc_new w _))
  have k1 : (((w.alloc (.cells #[.int .i64 n.kind, .string n.data, .slice h.A n.ptrs.length h.a, .int .i64 n.size, .int .i64 n.count, .slice h.B n.items.length h.b] 24)).alloc (.cells #[.int .i64 0, .string { data := #[] }, .slice none 0 0, .int .i64 0, .int .i64 0, .slice none 0 0] nodeT)).alloc (.cells #[.int .i64 n.kind, .string n.data, .slice none 0 0, .int .i64 0, .int .i64 0, .slice none 0 0] nodeT)).heap[w.heap.size + 1]? = some (.cells #[.int .i64 0, .string { data := #[] }, .slice none 0 0, .int .i64 0, .int .i64 0, .slice none 0 0] nodeT (0, 0)) := (Below.heap_alloc _ _ _ (by simp)).trans (by have := heap_alloc_new (w.alloc (.cells #[.int .i64 n.kind, .string n.data, .slice h.A n.ptrs.length h.a, .int .i64 n.size, .int .i64 n.count, .slice h.B n.items.length h.b] 24)) (.cells #[.int .i64 0, .string { data := #[] }, .slice none 0 0, .int .i64 0, .int .i64 0, .slice none 0 0] nodeT); rwa [show (w.alloc (.cells #[.int .i64 n.kind, .string n.data, .slice h.A n.ptrs.length h.a, .int .i64 n.size, .int .i64 n.count, .slice h.B n.items.length h.b] 24)).heap.size = w.heap.size + 1 by simp] at this)
  have k2 : (((w.alloc (.cells #[.int .i64 n.kind, .string n.data, .slice h.A n.ptrs.length h.a, .int .i64 n.size, .int .i64 n.count, .slice h.B n.items.length h.b] 24)).alloc (.cells #[.int .i64 0, .string { data := #[] }, .slice none 0 0, .int .i64 0, .int .i64 0, .slice none 0 0] nodeT)).alloc (.cells #[.int .i64 n.kind, .string n.data, .slice none 0 0, .int .i64 0, .int .i64 0, .slice none 0 0] nodeT)).heap[w.heap.size + 1 + 1]? = some (.cells #[.int .i64 n.kind, .string n.data, .slice none 0 0, .int .i64 0, .int .i64 0, .slice none 0 0] nodeT (0, 0)) := by have := heap_alloc_new ((w.alloc (.cells #[.int .i64 n.kind, .string n.data, .slice h.A n.ptrs.length h.a, .int .i64 n.size, .int .i64 n.count, .slice h.B n.items.length h.b] 24)).alloc (.cells #[.int .i64 0, .string { data := #[] }, .slice none 0 0, .int .i64 0, .int .i64 0, .slice none 0 0] nodeT)) (.cells #[.int .i64 n.kind, .string n.data, .slice none 0 0, .int .i64 0, .int .i64 0, .slice none 0 0] nodeT); rwa [show ((w.alloc (.cells #[.int .i64 n.kind, .string n.data, .slice h.A n.ptrs.length h.a, .int .i64 n.size, .int .i64 n.count, .slice h.B n.items.length h.b] 24)).alloc (.cells #[.int .i64 0, .string { data := #[] }, .slice none 0 0, .int .i64 0, .int .i64 0, .slice none 0 0] nodeT)).heap.size = w.heap.size + 1 + 1 by simp] at this
  have hs3 : (((w.alloc (.cells #[.int .i64 n.kind, .string n.data, .slice h.A n.ptrs.length h.a, .int .i64 n.size, .int .i64 n.count, .slice h.B n.items.length h.b] 24)).alloc (.cells #[.int .i64 0, .string { data := #[] }, .slice none 0 0, .int .i64 0, .int .i64 0, .slice none 0 0] nodeT)).alloc (.cells #[.int .i64 n.kind, .string n.data, .slice none 0 0, .int .i64 0, .int .i64 0, .slice none 0 0] nodeT)).heap.size = w.heap.size + 3 := by simp
  have hcl0 : CleanFrom w.heap.size (((w.alloc (.cells #[.int .i64 n.kind, .string n.data, .slice h.A n.ptrs.length h.a, .int .i64 n.size, .int .i64 n.count, .slice h.B n.items.length h.b] 24)).alloc (.cells #[.int .i64 0, .string { data := #[] }, .slice none 0 0, .int .i64 0, .int .i64 0, .slice none 0 0] nodeT)).alloc (.cells #[.int .i64 n.kind, .string n.data, .slice none 0 0, .int .i64 0, .int .i64 0, .slice none 0 0] nodeT)) := (((CleanFrom.refl w).alloc _ _).alloc _ _).alloc _ _
  generalize (((w.alloc (.cells #[.int .i64 n.kind, .string n.data, .slice h.A n.ptrs.length h.a, .int .i64 n.size, .int .i64 n.count, .slice h.B n.items.length h.b] 24)).alloc (.cells #[.int .i64 0, .string { data := #[] }, .slice none 0 0, .int .i64 0, .int .i64 0, .slice none 0 0] nodeT)).alloc (.cells #[.int .i64 n.kind, .string n.data, .slice none 0 0, .int .i64 0, .int .i64 0, .slice none 0 0] nodeT)) = W3 at *
  refine (HS.out h.A h.a n.ptrs W3 S (HN.out.below hb0).2.1 HT1.out).mono ?_
  rintro e w1 ⟨A1, c1, rfl, hn1, hb1, hcl1⟩
  have HC1 := Lib.hid (hcl0.call hb1 hcl1)
  have HN1 := Lib.hid hn1
  have k0' := (hb1.block _ (by omega)).trans k0
  have k1' := (hb1.block _ (by omega)).trans k1
  have k2' := (hb1.block _ (by omega)).trans k2
  have HB1 := Lib.hid (hb0.trans (hb1.mono (by omega)))
  have HS3 := Lib.hid hs3
  have HS1 := Lib.hid hb1.size
  have HK0 := Lib.hid k0'
  have HK1 := Lib.hid k1'
  have HK2 := Lib.hid k2'
  obtain ⟨a0, a1, a2, a3, a4, a5⟩ := cells6 k0'
  obtain ⟨b0, b1, b2, b3, b4, b5⟩ := cells6 k2'
  have f2 := row_free k2'
  clear hcl0 hcl1 hn1 hb1 k0 k1 k2 k0' k1' k2' hs3 hb0
  go_wp2_with fail
  have hu5 : Upon (w.heap.size + 3) w1 (((w1.setCell ⟨w.heap.size + 1 + 1, 2, none⟩ (.slice A1 n.ptrs.length c1)).setCell ⟨w.heap.size + 1 + 1, 3, none⟩ (.int .i64 n.size)).setCell ⟨w.heap.size + 1 + 1, 4, none⟩ (.int .i64 n.count)) := (((Upon.refl _ w1).setCell (p := ⟨w.heap.size + 1 + 1, 2, none⟩) (by simp) _).setCell (p := ⟨w.heap.size + 1 + 1, 3, none⟩) (by simp) _).setCell (p := ⟨w.heap.size + 1 + 1, 4, none⟩) (by simp) _
  have hb5 : Below w.heap.size w (((w1.setCell ⟨w.heap.size + 1 + 1, 2, none⟩ (.slice A1 n.ptrs.length c1)).setCell ⟨w.heap.size + 1 + 1, 3, none⟩ (.int .i64 n.size)).setCell ⟨w.heap.size + 1 + 1, 4, none⟩ (.int .i64 n.count)) := ((HB1.out.setCell (p := ⟨w.heap.size + 1 + 1, 2, none⟩) (by simp; omega) _).setCell (p := ⟨w.heap.size + 1 + 1, 3, none⟩) (by simp; omega) _).setCell (p := ⟨w.heap.size + 1 + 1, 4, none⟩) (by simp; omega) _
  have j0 : ((((w1.setCell ⟨w.heap.size + 1 + 1, 2, none⟩ (.slice A1 n.ptrs.length c1)).setCell ⟨w.heap.size + 1 + 1, 3, none⟩ (.int .i64 n.size)).setCell ⟨w.heap.size + 1 + 1, 4, none⟩ (.int .i64 n.count))).heap[w.heap.size]? = some (.cells #[.int .i64 n.kind, .string n.data, .slice h.A n.ptrs.length h.a, .int .i64 n.size, .int .i64 n.count, .slice h.B n.items.length h.b] 24 (0, 0)) := (Below.heap_setCell _ _ _ _ (by simp; omega)).trans ((Below.heap_setCell _ _ _ _ (by simp; omega)).trans ((Below.heap_setCell _ _ _ _ (by simp; omega)).trans HK0.out))
  have j1 : ((((w1.setCell ⟨w.heap.size + 1 + 1, 2, none⟩ (.slice A1 n.ptrs.length c1)).setCell ⟨w.heap.size + 1 + 1, 3, none⟩ (.int .i64 n.size)).setCell ⟨w.heap.size + 1 + 1, 4, none⟩ (.int .i64 n.count))).heap[w.heap.size + 1]? = some (.cells #[.int .i64 0, .string { data := #[] }, .slice none 0 0, .int .i64 0, .int .i64 0, .slice none 0 0] nodeT (0, 0)) := (Below.heap_setCell _ _ _ _ (by simp)).trans ((Below.heap_setCell _ _ _ _ (by simp)).trans ((Below.heap_setCell _ _ _ _ (by simp)).trans HK1.out))
  have j2 : ((((w1.setCell ⟨w.heap.size + 1 + 1, 2, none⟩ (.slice A1 n.ptrs.length c1)).setCell ⟨w.heap.size + 1 + 1, 3, none⟩ (.int .i64 n.size)).setCell ⟨w.heap.size + 1 + 1, 4, none⟩ (.int .i64 n.count))).heap[w.heap.size + 1 + 1]? = some (.cells #[.int .i64 n.kind, .string n.data, .slice A1 n.ptrs.length c1, .int .i64 n.size, .int .i64 n.count, .slice none 0 0] nodeT (0, 0)) := row_setN (row_setN (row_setN HK2.out 2 _) 3 _) 4 _
  have hn5 : NdsAt (((w1.setCell ⟨w.heap.size + 1 + 1, 2, none⟩ (.slice A1 n.ptrs.length c1)).setCell ⟨w.heap.size + 1 + 1, 3, none⟩ (.int .i64 n.size)).setCell ⟨w.heap.size + 1 + 1, 4, none⟩ (.int .i64 n.count)) (From (w.heap.size + 3)) m A1 n.ptrs := (HN1.out.from_ (Nat.le_of_eq HS3.out.symm)).upon hu5
  have hs5 : w.heap.size + 3 ≤ ((((w1.setCell ⟨w.heap.size + 1 + 1, 2, none⟩ (.slice A1 n.ptrs.length c1)).setCell ⟨w.heap.size + 1 + 1, 3, none⟩ (.int .i64 n.size)).setCell ⟨w.heap.size + 1 + 1, 4, none⟩ (.int .i64 n.count))).heap.size := by have := hu5.size; have := HS1.out; have := HS3.out; omega
  have hcl5 : CleanFrom w.heap.size (((w1.setCell ⟨w.heap.size + 1 + 1, 2, none⟩ (.slice A1 n.ptrs.length c1)).setCell ⟨w.heap.size + 1 + 1, 3, none⟩ (.int .i64 n.size)).setCell ⟨w.heap.size + 1 + 1, 4, none⟩ (.int .i64 n.count)) := ((HC1.out.setCell _ _).setCell _ _).setCell _ _
  generalize (((w1.setCell ⟨w.heap.size + 1 + 1, 2, none⟩ (.slice A1 n.ptrs.length c1)).setCell ⟨w.heap.size + 1 + 1, 3, none⟩ (.int .i64 n.size)).setCell ⟨w.heap.size + 1 + 1, 4, none⟩ (.int .i64 n.count)) = W5 at *
  have HN5 := Lib.hid hn5
  have HS5 := Lib.hid hs5
  clear a0 a1 a2 a3 a4 a5 b0 b1 b2 b3 b4 b5 f2 hu5 HK0 HK1 HK2 HN1
  refine (HS.out h.B h.b n.items W5 S (HN.out.below hb5).2.2 HT2.out).mono ?_
  rintro e w2 ⟨A2, c2, rfl, hn2, hb2, hcl2⟩
  have HC2 := Lib.hid (hcl5.call hb2 hcl2)
  have HN2 := Lib.hid (hn2.from_ HS5.out)
  have HN1 := Lib.hid (HN5.out.below hb2)
  have HB2 := Lib.hid (hb5.trans (hb2.mono hb5.size))
  have k1 := (hb2.block _ (by omega)).trans j1
  have k2 := (hb2.block _ (by omega)).trans j2
  have hc0 : ∀ u i, (w2.setCell ⟨w.heap.size + 1 + 1, 5, none⟩ u).cell? ⟨w.heap.size + 1, i, none⟩ = (#[.int .i64 0, .string { data := #[] }, .slice none 0 0, .int .i64 0, .int .i64 0, .slice none 0 0] : Array Value)[i]? := fun u i => cell_of_row _ _ _ _ _ _ ((Below.heap_setCell w2 ⟨w.heap.size + 1 + 1, 5, none⟩ u (w.heap.size + 1) (by simp)).trans k1)
  obtain ⟨b0, b1, b2, b3, b4, b5⟩ := cells6 k2
  have f2 := row_free k2
  have hf1 : ∀ u i, (w2.setCell ⟨w.heap.size + 1 + 1, 5, none⟩ u).frozen? ⟨w.heap.size + 1, i, none⟩ = false := fun u i => row_free ((Below.heap_setCell w2 ⟨w.heap.size + 1 + 1, 5, none⟩ u (w.heap.size + 1) (by simp)).trans k1) i
  have HK1 := Lib.hid k1
  have HK2 := Lib.hid k2
  clear hcl5 hcl2 k1 k2 j0 j1 j2 hn5 hs5 hb5 hn2 hb2 HN5
  go_wp2_with fail
  have kw := row_setN (row_setN (row_setN (row_setN (row_setN (row_setN ((Below.heap_setCell w2 ⟨w.heap.size + 1 + 1, 5, none⟩ (.slice A2 n.items.length c2) (w.heap.size + 1) (by simp)).trans HK1.out) 0 (.int .i64 n.kind)) 1 (.string n.data)) 2 (.slice A1 n.ptrs.length c1)) 3 (.int .i64 n.size)) 4 (.int .i64 n.count)) 5 (.slice A2 n.items.length c2)
  have hbw := ((((((HB2.out.setCell (p := ⟨w.heap.size + 1 + 1, 5, none⟩) (by simp; omega) (.slice A2 n.items.length c2)).setCell (p := ⟨w.heap.size + 1, 0, none⟩) (by simp) (.int .i64 n.kind)).setCell (p := ⟨w.heap.size + 1, 1, none⟩) (by simp) (.string n.data)).setCell (p := ⟨w.heap.size + 1, 2, none⟩) (by simp) (.slice A1 n.ptrs.length c1)).setCell (p := ⟨w.heap.size + 1, 3, none⟩) (by simp) (.int .i64 n.size)).setCell (p := ⟨w.heap.size + 1, 4, none⟩) (by simp) (.int .i64 n.count)).setCell (p := ⟨w.heap.size + 1, 5, none⟩) (by simp) (.slice A2 n.items.length c2)
  have huw := (((((((Upon.refl (w.heap.size + 3) w2).setCell (p := ⟨w.heap.size + 1 + 1, 5, none⟩) (by simp) (.slice A2 n.items.length c2)).setCell (p := ⟨w.heap.size + 1, 0, none⟩) (by simp) (.int .i64 n.kind)).setCell (p := ⟨w.heap.size + 1, 1, none⟩) (by simp) (.string n.data)).setCell (p := ⟨w.heap.size + 1, 2, none⟩) (by simp) (.slice A1 n.ptrs.length c1)).setCell (p := ⟨w.heap.size + 1, 3, none⟩) (by simp) (.int .i64 n.size)).setCell (p := ⟨w.heap.size + 1, 4, none⟩) (by simp) (.int .i64 n.count)).setCell (p := ⟨w.heap.size + 1, 5, none⟩) (by simp) (.slice A2 n.items.length c2)
  have hclw : CleanFrom w.heap.size (((((((w2.setCell ⟨w.heap.size + 1 + 1, 5, none⟩ (.slice A2 n.items.length c2)).setCell ⟨w.heap.size + 1, 0, none⟩ (.int .i64 n.kind)).setCell ⟨w.heap.size + 1, 1, none⟩ (.string n.data)).setCell ⟨w.heap.size + 1, 2, none⟩ (.slice A1 n.ptrs.length c1)).setCell ⟨w.heap.size + 1, 3, none⟩ (.int .i64 n.size)).setCell ⟨w.heap.size + 1, 4, none⟩ (.int .i64 n.count)).setCell ⟨w.heap.size + 1, 5, none⟩ (.slice A2 n.items.length c2)) := ((((((HC2.out.setCell _ _).setCell _ _).setCell _ _).setCell _ _).setCell _ _).setCell _ _).setCell _ _
  generalize (((((((w2.setCell ⟨w.heap.size + 1 + 1, 5, none⟩ (.slice A2 n.items.length c2)).setCell ⟨w.heap.size + 1, 0, none⟩ (.int .i64 n.kind)).setCell ⟨w.heap.size + 1, 1, none⟩ (.string n.data)).setCell ⟨w.heap.size + 1, 2, none⟩ (.slice A1 n.ptrs.length c1)).setCell ⟨w.heap.size + 1, 3, none⟩ (.int .i64 n.size)).setCell ⟨w.heap.size + 1, 4, none⟩ (.int .i64 n.count)).setCell ⟨w.heap.size + 1, 5, none⟩ (.slice A2 n.items.length c2)) = W at *
  obtain ⟨e0, e1, e2, e3, e4, e5⟩ := cells6 kw
  exact bodyPost_ret (v := .agg #[.int .i64 n.kind, .string n.data, .slice A1 n.ptrs.length c1, .int .i64 n.size, .int .i64 n.count, .slice A2 n.items.length c2])
    (by simp [results, Tryz.results9, go_sem, e0, e1, e2, e3, e4, e5]) rfl ⟨⟨A1, c1, A2, c2⟩, rfl, ⟨HN.out.1, (HN1.out.upon huw).from_ (by omega), (HN2.out.upon huw).from_ (by omega)⟩, hbw, hclw⟩
theorem toSC_zero : ToSC 0 := by
  intro A c l w S hl ht
  obtain rfl := hl.zero
  obtain ⟨i0, hi, hz0, hz1, hz2⟩ := info_parts infoNd
  have hmk : ∀ w : World, (Instr.makeSlice nodesT (.int .i64 0) (.int .i64 0)).run Tryz.prog w = .ok (.slice (some ⟨w.heap.size, 0, none⟩) 0 0) (w.alloc (.cells (madeCells #[.int .i64 0, .string ByteArray.empty, .slice none 0 0, .int .i64 0, .int .i64 0, .slice none 0 0] 0) nodeT)) := fun w => by
    have := run_make (P := Tryz.prog) w nodesT nodeT i0 _ Tryz.underlying28 hi hz0 .i64 .i64 0 0 (by omega) (Int.le_refl _) (by rw [hz2]; omega) (by omega)
    rw [hz1] at this
    exact this
  clear ht
  go_enter Tryz.func26, Tryz.ntmps26
  go_wp2
  go_loopw [4] (fun i wr => i = .int .i64 0 ∧ Hid (Below w.heap.size w wr ∧ CleanFrom w.heap.size wr)) (fun _ _ => 0)
  case atStart => exact ⟨rfl, Lib.hid ⟨(Below.refl _ _).alloc (Nat.le_refl _) _, (CleanFrom.refl w).alloc _ _⟩⟩
  case round =>
    obtain ⟨rfl, HB⟩ := hrel
    go_wp2
    go_ret
    exact ⟨_, _, rfl, rfl, HB.out.1, HB.out.2⟩
set_option maxHeartbeats 4000000 in
set_option maxRecDepth 100000 in
theorem toSC_succ (m : Nat) (hN : ToNC m) : ToSC (m + 1) := by
  intro A c l w S hl ht
  have hlm : l.length ≤ 2000000 := Nat.le_trans (totL_len m l) ht
  obtain ⟨i0, hi, hz0, hz1, hz2⟩ := info_parts infoNd
  have hmk : ∀ w : World, (Instr.makeSlice nodesT (.int .i64 (l.length : Int)) (.int .i64 (l.length : Int))).run Tryz.prog w = .ok (.slice (some ⟨w.heap.size, 0, none⟩) l.length l.length) (w.alloc (.cells (madeCells #[.int .i64 0, .string ByteArray.empty, .slice none 0 0, .int .i64 0, .int .i64 0, .slice none 0 0] (l.length * 6)) nodeT)) := fun w => by
    have := run_make (P := Tryz.prog) w nodesT nodeT i0 _ Tryz.underlying28 hi hz0 .i64 .i64 (l.length : Int) (l.length : Int) (by omega) (Int.le_refl _) (by rw [hz2]; omega) (by omega)
    rw [hz1] at this
    simp only [Int.toNat_natCast] at this
    exact this
  have HF := Lib.hid hl
  have HN := Lib.hid hN
  have HT : Hid (∀ k (h : k < l.length), totN m l[k] ≤ 2000000) := Lib.hid fun k h => by have := totL_at (m := m) h; omega
  clear hl hN ht
  go_enter Tryz.func26, Tryz.ntmps26
  go_wp2
  have HROW := Lib.hid (heap_alloc_new w (.cells (madeCells #[.int .i64 0, .string ByteArray.empty, .slice none 0 0, .int .i64 0, .int .i64 0, .slice none 0 0] (l.length * 6)) nodeT))
  obtain ⟨x, hx⟩ : ∃ x : Addr, x = ⟨w.heap.size, 0, none⟩ := ⟨_, rfl⟩
  rw [← hx]
  have HX := Lib.hid hx
  clear hx hmk
  go_loopw [4] (fun i wr => ∃ k : Nat, i = .int .i64 k ∧ k ≤ l.length ∧ Hid (∃ (arr : Array Value) (q : List (Nd × Hd)), wr.heap[w.heap.size]? = some (.cells arr nodeT (0, 0)) ∧ arr.size = l.length * 6 ∧ q.map (·.1) = l.take k ∧ (∀ (j : Nat) (u : Value), (rowOf q)[j]? = some u → arr[j]? = some u) ∧ ∀ r ∈ q, NdAt wr (From (w.heap.size + 1)) m r.1 r.2) ∧ Hid (Below w.heap.size w wr) ∧ Hid (CleanFrom w.heap.size wr)) (fun i _ => l.length - (intOf i).toNat)
  case atStart => exact ⟨0, rfl, by omega, Lib.hid ⟨_, [], HROW.out, by rw [size_madeCells], rfl, fun j u h => by simp [rowOf] at h, fun r h => by cases h⟩, Lib.hid ((Below.refl _ _).alloc (Nat.le_refl _) _), Lib.hid ((CleanFrom.refl w).alloc _ _)⟩
  case round =>
    obtain ⟨k, rfl, hk, HA, HB, HC⟩ := hrel
    by_cases hlt : k < l.length
    · obtain ⟨y, hd, rfl, hc, hn⟩ := (HF.out.below HB.out).at_ hlt
      obtain ⟨arr, q, hrow, hsz, hq, harr, hqn⟩ := HA.out
      have hql : q.length = k := by have := congrArg List.length hq; simp at this; omega
      have htk : l.take (k + 1) = l.take k ++ [l[k]] := List.take_succ_eq_append_getElem hlt
      have htn := HT.out k hlt
      generalize l[k] = n at hc hn htk htn
      obtain ⟨d0, d1, d2, d3, d4, d5⟩ := hc
      have hrlt := row_lt hrow
      have HP := Lib.hid (HN.out n hd wr S hn htn)
      have HROWK := Lib.hid hrow
      have HSZ := Lib.hid hsz
      have HQ := Lib.hid (And.intro hq (And.intro harr (And.intro hqn (And.intro hql htk))))
      clear hq harr hqn hql htk hn htn
      go_wp2_with fail
      refine HP.out.mono ?_
      rintro e w2 ⟨h2, rfl, hn2, hb2, hcl2⟩
      have HC2 := Lib.hid (HC.out.call hb2 hcl2)
      have hrow2 := (hb2.block w.heap.size hrlt).trans HROWK.out
      obtain ⟨v0, hv0⟩ := some_at0 (i := k * 6) hsz (by omega)
      obtain ⟨v1, hv1⟩ := some_at0 (i := k * 6 + 1) hsz (by omega)
      obtain ⟨v2, hv2⟩ := some_at0 (i := k * 6 + 2) hsz (by omega)
      obtain ⟨v3, hv3⟩ := some_at0 (i := k * 6 + 3) hsz (by omega)
      obtain ⟨v4, hv4⟩ := some_at0 (i := k * 6 + 4) hsz (by omega)
      obtain ⟨v5, hv5⟩ := some_at0 (i := k * 6 + 5) hsz (by omega)
      have hadd : x.add (k * 6) = ⟨w.heap.size, k * 6, none⟩ := by rw [HX.out, add_zero0]
      have p0 : w2.cell? ⟨w.heap.size, k * 6, none⟩ = some v0 := by rw [cell_of_row _ _ _ _ _ _ hrow2]; exact hv0
      have p1 : w2.cell? ⟨w.heap.size, k * 6 + 1, none⟩ = some v1 := by rw [cell_of_row _ _ _ _ _ _ hrow2]; exact hv1
      have p2 : w2.cell? ⟨w.heap.size, k * 6 + 2, none⟩ = some v2 := by rw [cell_of_row _ _ _ _ _ _ hrow2]; exact hv2
      have p3 : w2.cell? ⟨w.heap.size, k * 6 + 3, none⟩ = some v3 := by rw [cell_of_row _ _ _ _ _ _ hrow2]; exact hv3
      have p4 : w2.cell? ⟨w.heap.size, k * 6 + 4, none⟩ = some v4 := by rw [cell_of_row _ _ _ _ _ _ hrow2]; exact hv4
      have p5 : w2.cell? ⟨w.heap.size, k * 6 + 5, none⟩ = some v5 := by rw [cell_of_row _ _ _ _ _ _ hrow2]; exact hv5
      have z0 := row_free hrow2
      have HR2 := Lib.hid hrow2
      have HB2 := Lib.hid (HB.out.trans (hb2.mono HB.out.size))
      have HN2 := Lib.hid (hn2.from_ (B' := w.heap.size + 1) (by omega))
      have HQ2 : Hid (∀ r ∈ q, NdAt w2 (From (w.heap.size + 1)) m r.1 r.2) := Lib.hid fun r hr => (HQ.out.2.2.1 r hr).below hb2
      clear hcl2 hrow hsz hrow2 hb2 hv0 hv1 hv2 hv3 hv4 hv5 hn2
      go_wp2
      go_roundw
      case rel =>
        refine ⟨k + 1, by go_num, by omega, Lib.hid ⟨_, q ++ [(n, h2)], row_setN (row_setN (row_setN (row_setN (row_setN (row_setN HR2.out (k * 6) _) (k * 6 + 1) _) (k * 6 + 2) _) (k * 6 + 3) _) (k * 6 + 4) _) (k * 6 + 5) _, by simp [HSZ.out], ?_, ?_, ?_⟩, Lib.hid ?_, Lib.hid ((((((HC2.out.setCell _ _).setCell _ _).setCell _ _).setCell _ _).setCell _ _).setCell _ _)⟩
        · rw [List.map_append, HQ.out.1, HQ.out.2.2.2.2]; rfl
        · have := arr_step HQ.out.2.1 HSZ.out (by rw [HQ.out.2.2.2.1]; omega) (n, h2)
          rw [HQ.out.2.2.2.1] at this
          exact this
        · have hu := (((((((Upon.refl (w.heap.size + 1) w2).setCell (p := ⟨w.heap.size, k * 6, none⟩) (by simp) (.int .i64 n.kind)).setCell (p := ⟨w.heap.size, k * 6 + 1, none⟩) (by simp) (.string n.data)).setCell (p := ⟨w.heap.size, k * 6 + 2, none⟩) (by simp) (.slice h2.A n.ptrs.length h2.a)).setCell (p := ⟨w.heap.size, k * 6 + 3, none⟩) (by simp) (.int .i64 n.size)).setCell (p := ⟨w.heap.size, k * 6 + 4, none⟩) (by simp) (.int .i64 n.count)).setCell (p := ⟨w.heap.size, k * 6 + 5, none⟩) (by simp) (.slice h2.B n.items.length h2.b))
          intro r hr
          rcases List.mem_append.1 hr with hr | hr
          · exact (HQ2.out r hr).upon hu
          · obtain rfl := List.mem_singleton.1 hr
            exact HN2.out.upon hu
        · exact (((((HB2.out.setCell (p := ⟨w.heap.size, k * 6, none⟩) (Nat.le_refl _) _).setCell (p := ⟨w.heap.size, k * 6 + 1, none⟩) (Nat.le_refl _) _).setCell (p := ⟨w.heap.size, k * 6 + 2, none⟩) (Nat.le_refl _) _).setCell (p := ⟨w.heap.size, k * 6 + 3, none⟩) (Nat.le_refl _) _).setCell (p := ⟨w.heap.size, k * 6 + 4, none⟩) (Nat.le_refl _) _).setCell (p := ⟨w.heap.size, k * 6 + 5, none⟩) (Nat.le_refl _) _
      case measure => simp [intOf]; omega
    · obtain rfl : k = l.length := by omega
      obtain ⟨arr, q, hrow, hsz, hq, harr, hqn⟩ := HA.out
      rw [List.take_of_length_le (Nat.le_refl _)] at hq
      have HX2 := HX
      have HRES : Hid (NdsAt wr (From w.heap.size) (m + 1) (some ⟨w.heap.size, 0, none⟩) l) := Lib.hid (by
        have := nds_of_row (S := From w.heap.size) (m := m) hrow (Nat.le_refl _) (by have := congrArg List.length hq; simp at this; unfold maxLen; omega) harr (fun r hr => (hqn r hr).from_ (by omega))
        rwa [hq] at this)
      clear hrow hsz hq harr hqn HA
      go_wp2
      go_ret
      rw [HX2.out]
      exact ⟨_, _, rfl, HRES.out, HB.out, HC.out⟩
theorem toSC_any : ∀ m, ToSC m
  | 0 => toSC_zero
  | m + 1 => toSC_succ m (toNC_of m (toSC_any m))
theorem toNC_any (m : Nat) : ToNC m := toNC_of m (toSC_any m)
end Go.Proofs.YtbijfkpilncclaaGreat

/- Plain blocks, of which nothing is frozen. No Go text. -/
namespace Go.Proofs.YtbijfkpilncclaaGreat
open Go.RowKit
/-- plain blocks from B on. -/
def FromC (w : World) (B : Nat) : Nat → Prop := fun k => B ≤ k ∧ Clean w k
theorem clean_of {w w' : World} {k : Nat} (h : Clean w k) (he : w'.heap[k]? = w.heap[k]?) : Clean w' k := by
  obtain ⟨c, t, hk⟩ := h
  exact ⟨c, t, he.trans hk⟩
theorem clean_low {w w' : World} {k : Nat} (h : Clean w k) (hb : Below w.heap.size w w') : Clean w' k := by
  obtain ⟨c, t, hk⟩ := h
  exact ⟨c, t, (hb.block k (heap_lt hk)).trans hk⟩
theorem clean_set {w : World} {k : Nat} (h : Clean w k) (p : Addr) (v : Value) : Clean (w.setCell p v) k := by
  obtain ⟨c, t, h4⟩ := h
  by_cases hk : k = p.block
  · subst hk
    obtain ⟨b, o, s⟩ := p
    cases s with
    | none => exact ⟨c.setIfInBounds o v, t, by simp [World.setCell, Array.getElem?_modify, h4]⟩
    | some s => exact ⟨c, t, by simp [World.setCell, Array.getElem?_modify, h4]⟩
  · exact ⟨c, t, (Below.heap_setCell w p v k hk).trans h4⟩
theorem clean_size {w : World} {k : Nat} (h : Clean w k) : k < w.heap.size := by
  obtain ⟨c, t, hk⟩ := h
  exact heap_lt hk
theorem NdAt.belowC {w w' : World} {B m : Nat} {n : Nd} {h : Hd} (hn : NdAt w (FromC w B) m n h) (hb : Below w.heap.size w w') : NdAt w' (FromC w' B) m n h := (hn.below hb).weak (fun _ hk => ⟨hk.1, clean_low hk.2 hb⟩)
theorem NdsAt.belowC {w w' : World} {B m : Nat} {A : Option Addr} {l : List Nd} (hn : NdsAt w (FromC w B) m A l) (hb : Below w.heap.size w w') : NdsAt w' (FromC w' B) m A l := (hn.below hb).weak (fun _ hk => ⟨hk.1, clean_low hk.2 hb⟩)
theorem NdsAt.fromC {w : World} {B B' m : Nat} {A : Option Addr} {l : List Nd} (h : NdsAt w (FromC w B) m A l) (hB : B' ≤ B) : NdsAt w (FromC w B') m A l := h.weak (fun _ hk => ⟨Nat.le_trans hB hk.1, hk.2⟩)
theorem NdAt.fromC {w : World} {B B' m : Nat} {n : Nd} {h : Hd} (hn : NdAt w (FromC w B) m n h) (hB : B' ≤ B) : NdAt w (FromC w B') m n h := hn.weak (fun _ hk => ⟨Nat.le_trans hB hk.1, hk.2⟩)
theorem NdsAt.uponC {w w' : World} {B m : Nat} {A : Option Addr} {l : List Nd} (h : NdsAt w (FromC w B) m A l) (hu : Upon B w w') : NdsAt w' (FromC w' B) m A l :=
  (NdsAt.map (fun _ h => h) (fun _p _ _ hs hc => hc.block (hu.block _ hs.1 hc.lt)) _ _ _ h).weak (fun k hk => ⟨hk.1, clean_of hk.2 (hu.block k hk.1 (clean_size hk.2))⟩)
theorem NdAt.uponC {w w' : World} {B m : Nat} {n : Nd} {h : Hd} (hn : NdAt w (FromC w B) m n h) (hu : Upon B w w') : NdAt w' (FromC w' B) m n h := ⟨hn.1, hn.2.1.uponC hu, hn.2.2.uponC hu⟩
theorem NdAt.plain {w : World} {B m : Nat} {n : Nd} {h : Hd} (hn : NdAt w (FromC w B) m n h) : NdAt w (From B) m n h := hn.weak (fun _ hk => hk.1)
theorem NdAt.cleanC {w : World} {B m : Nat} {n : Nd} {h : Hd} (hn : NdAt w (FromC w B) m n h) : NdAt w (Clean w) m n h := hn.weak (fun _ hk => hk.2)
/-- a row of the call's own that holds nodes. -/
theorem nds_of_ownC {w : World} {R T m : Nat} {v : Value} {q : List (Nd × Hd)} (h : w.ownsRow R T 6 v q.length (rowOf q)) (hq : q.length ≤ maxLen) (hr : ∀ r ∈ q, NdAt w (FromC w R) m r.1 r.2) : ∃ A cap, v = .slice A q.length cap ∧ NdsAt w (FromC w R) (m + 1) A (q.map (·.1)) := by
  rcases h.2 with ⟨rfl, h0⟩ | ⟨g, cap, cur, rfl, hR, hg, _⟩
  · obtain rfl : q = [] := List.eq_nil_of_length_eq_zero h0
    exact ⟨none, 0, rfl, NdsAt.nil _ _ _ _⟩
  · exact ⟨_, cap, rfl, by simpa using hq, q, rfl, .inr ⟨_, rfl, ⟨hR, _, _, hg⟩, at_cells (fun j u hj => h.cells (g := g) rfl j u hj)⟩, hr⟩
end Go.Proofs.YtbijfkpilncclaaGreat

/- The specification's drawer, pick: some number within its bounds; the drawer goes on by one place at each pick. -/
namespace Go.Proofs.YtbijfkpilncclaaGreat
open Go.RowKit

/-- a slice value that reads as bytes, in blocks below B. -/
def Code (w : World) (B : Nat) (a : Option Addr) (len : Nat) : Prop :=
  len ≤ maxLen ∧ (len = 0 ∨ ∃ x : Addr, a = some x ∧ x.block < B ∧ ∀ i, i < len → ∃ b : UInt8, w.cell? (x.add i) = some (.int .u8 (b.toNat : Int)))
theorem Code.keeps {w w' : World} {B B' R : Nat} {a : Option Addr} {len : Nat} (h : Code w B a len) (hk : Keeps B' R w w') (h1 : B ≤ B') (h2 : B ≤ R) : Code w' B a len := by
  refine ⟨h.1, h.2.imp id ?_⟩
  rintro ⟨x, rfl, hx, hc⟩
  refine ⟨x, rfl, hx, fun i hi => ?_⟩
  obtain ⟨b, hb⟩ := hc i hi
  exact ⟨b, (keeps_cell hk (x.add i) (by rw [addr_block]; omega) (by rw [addr_block]; omega)).trans hb⟩
theorem Code.mono {w : World} {B B' : Nat} {a : Option Addr} {len : Nat} (h : Code w B a len) (h1 : B ≤ B') : Code w B' a len :=
  ⟨h.1, h.2.imp id fun ⟨x, e, hx, hc⟩ => ⟨x, e, Nat.lt_of_lt_of_le hx h1, hc⟩⟩
/-- the drawer in block R: at most at place n. -/
def Rd (w : World) (R n : Nat) : Prop :=
  ∃ (a : Option Addr) (len cap p : Nat), p ≤ n ∧ w.heap[R]? = some (.cells #[.slice a len cap, .int .i64 (p : Int)] 125 (0, 0)) ∧ Code w R a len
theorem Rd.lt {w : World} {R n : Nat} (h : Rd w R n) : R < w.heap.size := by obtain ⟨_, _, _, _, _, hb, _⟩ := h; exact row_lt hb
theorem Rd.mono {w : World} {R n m : Nat} (h : Rd w R n) (h1 : n ≤ m) : Rd w R m := by obtain ⟨a, l, c, p, hp, r⟩ := h; exact ⟨a, l, c, p, by omega, r⟩
theorem Rd.below {w w' : World} {R n : Nat} (h : Rd w R n) (hb : Below w.heap.size w w') : Rd w' R n := by
  have hlt := h.lt
  obtain ⟨a, l, c, p, hp, hr, hc⟩ := h
  exact ⟨a, l, c, p, hp, (hb.block R hlt).trans hr, hc.keeps (R := w.heap.size) (Keeps.of_below hb) (by omega) (by omega)⟩
/-- what a pick leaves. -/
def Picked (w : World) (R n : Nat) (w' : World) : Prop := Rd w' R n ∧ Keeps w.heap.size R w w'
def Pick (k : Int) (R n : Nat) (w : World) (e : Ending) (w' : World) : Prop := ∃ v : Int, (0 ≤ v ∧ (v < k ∨ v = 0)) ∧ e = .returned (.int .i64 v) ∧ Picked w R (n + 1) w'
theorem xor_i64 (a b : Nat) (ha : a < 9223372036854775808) (hb : b < 9223372036854775808) : bits .xor .i64 (a : Int) (b : Int) = ((a ^^^ b : Nat) : Int) := by
  have hx : a ^^^ b < 2 ^ 63 := Nat.xor_lt_two_pow (by omega) (by omega)
  show IntKind.i64.wrap ((BitVec.ofInt 64 (a : Int) ^^^ BitVec.ofInt 64 (b : Int)).toNat : Int) = _
  rw [BitVec.toNat_xor, ofInt_i64' a ha, ofInt_i64' b hb, IntKind.wrap_i64]
  omega
theorem xor_bd (a b : Int) (ha : 0 ≤ a) (hb : 0 ≤ b) (ha1 : a < 9223372036854775808) (hb1 : b < 9223372036854775808) : 0 ≤ bits .xor .i64 a b := by
  obtain ⟨a, rfl⟩ := Int.eq_ofNat_of_zero_le ha
  obtain ⟨b, rfl⟩ := Int.eq_ofNat_of_zero_le hb
  rw [xor_i64 a b (by omega) (by omega)]
  omega
theorem picked_set {w : World} {R n p len cap : Nat} {a : Option Addr} (hp : p ≤ n) (hb : w.heap[R]? = some (.cells #[.slice a len cap, .int .i64 (p : Int)] 125 (0, 0))) (hc : Code w R a len) :
    Picked w R (n + 1) (w.setCell ⟨R, 1, none⟩ (.int .i64 ((p : Int) + 1))) := by
  have hk := set_keeps w.heap.size R w 1 (.int .i64 ((p : Int) + 1))
  refine ⟨⟨a, len, cap, p + 1, by omega, ?_, hc.keeps hk (Nat.le_of_lt (row_lt hb)) (Nat.le_refl _)⟩, hk⟩
  exact pair_set1 hb
theorem Picked.drewN {w w' : World} {R n : Nat} (h : Picked w R n w') (k : Nat) : Picked w R n (w'.drewN k) := by
  obtain ⟨⟨a, l, c, p, hp, hr, hc⟩, hk⟩ := h
  exact ⟨⟨a, l, c, p, hp, hr, hc⟩, hk.drewN k⟩

set_option maxHeartbeats 1000000 in
theorem pick_any (R n : Nat) (k : Int) (w : World) (h : Rd w R n) (hn : n ≤ 1000000) :
    Calls Tryz.prog 53 #[.pointer (some ⟨R, 0, none⟩), .int .i64 k] w (Pick k R n w) := by
  obtain ⟨a, len, cap, p, hp, hb, hc⟩ := h
  have hfin := picked_set hp hb hc
  have HF := Lib.hid hfin
  obtain ⟨hc0, hc1⟩ := cell_pair hb
  have hfz := row_free hb 1
  have hlen := hc.1
  unfold maxLen at hlen
  clear hfin
  by_cases h1 : k < 1
  · go_enter Tryz.func53, Tryz.ntmps53
    go_wp2
    go_ret
    exact ⟨0, ⟨by omega, .inr rfl⟩, rfl, HF.out⟩
  have h1' : 1 ≤ k := by omega
  by_cases h2 : len = 0
  · subst h2
    go_enter Tryz.func53, Tryz.ntmps53
    go_wp2
    go_ret
    exact ⟨0, ⟨by omega, .inr rfl⟩, rfl, HF.out⟩
  have hl0 : ((len : Int) == 0) = false := by simp; omega
  obtain ⟨x, rfl, hx, hcl⟩ := hc.2.resolve_left h2
  have hcl2 : ∀ i, i < len → ∃ b : UInt8, (w.setCell ⟨R, 1, none⟩ (.int .i64 ((p : Int) + 1))).cell? (x.add i) = some (.int .u8 (b.toNat : Int)) := fun i hi => by
    obtain ⟨b, hb'⟩ := hcl i hi
    refine ⟨b, (keeps_cell (set_keeps w.heap.size R w 1 _) (x.add i) ?_ ?_).trans hb'⟩
    · have := row_lt hb; rw [addr_block]; omega
    · rw [addr_block]; omega
  clear hcl
  by_cases h3 : p < len
  · obtain ⟨b, hbp⟩ := hcl2 p h3
    have hb256 := b.toNat_lt
    have hm : (b.toNat : Int) % k < k := Int.emod_lt_of_pos _ (by omega)
    have hm0 : 0 ≤ (b.toNat : Int) % k := Int.emod_nonneg _ (by omega)
    clear hcl2
    have HH := Lib.hid hb
    have HC := Lib.hid hc
    clear hb hc
    go_enter Tryz.func53, Tryz.ntmps53
    go_wp2
    go_ret
    exact ⟨_, ⟨hm0, .inl hm⟩, rfl, HF.out⟩
  · have hpl : 0 < len := by omega
    obtain ⟨b1, hb1⟩ := hcl2 (p % len) (Nat.mod_lt _ hpl)
    obtain ⟨b2, hb2⟩ := hcl2 ((p * 7 + 3) % len) (Nat.mod_lt _ hpl)
    have hb1l := b1.toNat_lt
    have hb2l := b2.toNat_lt
    have i1 : ((p : Int) % (len : Int)).toNat = p % len := by rw [← Int.natCast_emod]; rfl
    have i2 : (((p : Int) * 7 + 3) % (len : Int)).toNat = (p * 7 + 3) % len := by rw [show (p : Int) * 7 + 3 = ((p * 7 + 3 : Nat) : Int) by omega, ← Int.natCast_emod]; rfl
    have j1 : (p : Int) % (len : Int) < len := Int.emod_lt_of_pos _ (by omega)
    have j2 : ((p : Int) * 7 + 3) % (len : Int) < len := Int.emod_lt_of_pos _ (by omega)
    have j3 : 0 ≤ (p : Int) % (len : Int) := Int.emod_nonneg _ (by omega)
    have j4 : 0 ≤ ((p : Int) * 7 + 3) % (len : Int) := Int.emod_nonneg _ (by omega)
    have hq : 0 ≤ (p : Int) / (len : Int) := Int.ediv_nonneg (by omega) (by omega)
    have hq1 : (p : Int) / (len : Int) ≤ 1000000 := Int.le_trans (Int.ediv_le_self _ (by omega)) (by omega)
    clear hcl2
    have HH := Lib.hid hb
    have HC := Lib.hid hc
    clear hb hc
    go_enter Tryz.func53, Tryz.ntmps53
    go_wp2
    go_quiet (fail)
    have hv0 : 0 ≤ (b1.toNat : Int) * 131 + (b2.toNat : Int) * 1117 + (p : Int) * 29 + (p : Int) / (len : Int) * 53 := by omega
    have hv1 : (b1.toNat : Int) * 131 + (b2.toNat : Int) * 1117 + (p : Int) * 29 + (p : Int) / (len : Int) * 53 < 1000000000000 := by omega
    clear i1 i2 j1 j2 j3 j4
    generalize (b1.toNat : Int) * 131 + (b2.toNat : Int) * 1117 + (p : Int) * 29 + (p : Int) / (len : Int) * 53 = v at hv0 hv1 ⊢
    have hx0 : 0 ≤ bits .xor .i64 v (v / 64) := xor_bd v (v / 64) hv0 (by omega) (by omega) (by omega)
    have hm : bits .xor .i64 v (v / 64) % k < k := Int.emod_lt_of_pos _ (by omega)
    have hm0 : 0 ≤ bits .xor .i64 v (v / 64) % k := Int.emod_nonneg _ (by omega)
    go_wp2
    go_ret
    exact ⟨_, ⟨hm0, .inl hm⟩, rfl, HF.out.drewN _⟩
end Go.Proofs.YtbijfkpilncclaaGreat
