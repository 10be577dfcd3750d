/- Texts of the proof of the law FnExactDatumSame, side by side: part 2. -/
import Derived.Test.YtkimkhgigbejkabMExactDatumSame00
import Derived.Test.YtkimkhgigbejkabMExactDatumSame01
/- The laws' own copies of nodes: in plain blocks. -/
namespace Go.Proofs.Ytkimkhgigbejkab
open Go.RowKit
/-- all blocks from B on are plain ones, of which nothing is frozen. -/
def Clean (w : World) (k : Nat) : Prop := ∃ cs T, w.heap[k]? = some (.cells cs T (0, 0))
def CleanFrom (B : Nat) (w : World) : Prop := ∀ k, B ≤ k → k < w.heap.size → Clean w k
theorem CleanFrom.refl (w : World) : CleanFrom w.heap.size w := fun k h1 h2 => by omega
theorem CleanFrom.alloc {B : Nat} {w : World} (h : CleanFrom B w) (cs : Array Value) (T : TypeId) : CleanFrom B (w.alloc (.cells cs T)) := fun k h1 h2 => by
  have hs : (w.alloc (.cells cs T)).heap.size = w.heap.size + 1 := by simp
  rcases Nat.lt_or_ge k w.heap.size with h3 | h3
  · obtain ⟨c, t, h4⟩ := h k h1 h3
    exact ⟨c, t, (Below.heap_alloc w _ k h3).trans h4⟩
  · obtain rfl : k = w.heap.size := by omega
    exact ⟨cs, T, heap_alloc_new w _⟩
theorem CleanFrom.setCell {B : Nat} {w : World} (h : CleanFrom B w) (p : Addr) (v : Value) : CleanFrom B (w.setCell p v) := fun k h1 h2 => by
  obtain ⟨c, t, h4⟩ := h k h1 (by simpa [World.setCell] using h2)
  by_cases hk : k = p.block
  · subst hk
    obtain ⟨b, o, s⟩ := p
    cases s with
    | none => exact ⟨c.setIfInBounds o v, t, by simp [World.setCell, Array.getElem?_modify, h4]⟩
    | some s => exact ⟨c, t, by simp [World.setCell, Array.getElem?_modify, h4]⟩
  · exact ⟨c, t, (Below.heap_setCell w p v k hk).trans h4⟩
theorem CleanFrom.call {B : Nat} {w w' : World} (h : CleanFrom B w) (hb : Below w.heap.size w w') (hc : CleanFrom w.heap.size w') : CleanFrom B w' := fun k h1 h2 => by
  rcases Nat.lt_or_ge k w.heap.size with h3 | h3
  · obtain ⟨c, t, h4⟩ := h k h1 h3
    exact ⟨c, t, (hb.block k h3).trans h4⟩
  · exact hc k h3 h2
theorem CleanFrom.mono {B B' : Nat} {w : World} (h : CleanFrom B w) (hB : B ≤ B') : CleanFrom B' w := fun k h1 h2 => h k (Nat.le_trans hB h1) h2
def NewNC (m : Nat) (n : Nd) (w : World) (e : Ending) (w' : World) : Prop := ∃ h : Hd, e = .returned (.agg #[.int .i64 n.kind, .string n.data, .slice h.A n.ptrs.length h.a, .int .i64 n.size, .int .i64 n.count, .slice h.B n.items.length h.b]) ∧ NdAt w' (From w.heap.size) m n h ∧ Below w.heap.size w w' ∧ CleanFrom w.heap.size w'
def NewSC (m : Nat) (l : List Nd) (w : World) (e : Ending) (w' : World) : Prop := ∃ (A : Option Addr) (c : Nat), e = .returned (.slice A l.length c) ∧ NdsAt w' (From w.heap.size) m A l ∧ Below w.heap.size w w' ∧ CleanFrom w.heap.size w'
def ToSC (m : Nat) : Prop := ∀ (A : Option Addr) (c : Nat) (l : List Nd) (w : World) (S : Nat → Prop), NdsAt w S m A l → totL m l ≤ 2000000 →
  Calls Try.prog 35 #[.slice A l.length c] w (NewSC m l w)
def ToNC (m : Nat) : Prop := ∀ (n : Nd) (h : Hd) (w : World) (S : Nat → Prop), NdAt w S m n h → totN m n ≤ 2000000 →
  Calls Try.prog 12 #[.agg #[.int .i64 n.kind, .string n.data, .slice h.A n.ptrs.length h.a, .int .i64 n.size, .int .i64 n.count, .slice h.B n.items.length h.b]] w (NewNC m n w)
set_option maxHeartbeats 4000000 in
set_option maxRecDepth 100000 in
theorem toNC_of (m : Nat) (hS : ToSC m) : ToNC m := by
  intro n h w S hn ht
  have HS := Lib.hid hS
  have HN := Lib.hid hn
  have HT : Hid (totN m n ≤ 2000000) := Lib.hid ht
  have HT1 : Hid (totL m n.ptrs ≤ 2000000) := Lib.hid (by unfold totN at ht; omega)
  have HT2 : Hid (totL m n.items ≤ 2000000) := Lib.hid (by unfold totN at ht; omega)
  clear hS hn ht
  go_enter Try.func12, Try.ntmps12
  go_wp2_with fail
  have hb0 : Below w.heap.size w (((w.alloc (.cells #[.int .i64 n.kind, .string n.data, .slice h.A n.ptrs.length h.a, .int .i64 n.size, .int .i64 n.count, .slice h.B n.items.length h.b] 32)).alloc (.cells #[.int .i64 0, .string { data := #[] }, .slice none 0 0, .int .i64 0, .int .i64 0, .slice none 0 0] nodeT)).alloc (.cells #[.int .i64 n.kind, .string n.data, .slice none 0 0, .int .i64 0, .int .i64 0, .slice none 0 0] nodeT)) := (((Below.refl _ w).alloc (Nat.le_refl _) _).alloc (by simp) _).alloc (by simp; omega) _
  have k0 : (((w.alloc (.cells #[.int .i64 n.kind, .string n.data, .slice h.A n.ptrs.length h.a, .int .i64 n.size, .int .i64 n.count, .slice h.B n.items.length h.b] 32)).alloc (.cells #[.int .i64 0, .string { data := #[] }, .slice none 0 0, .int .i64 0, .int .i64 0, .slice none 0 0] nodeT)).alloc (.cells #[.int .i64 n.kind, .string n.data, .slice none 0 0, .int .i64 0, .int .i64 0, .slice none 0 0] nodeT)).heap[w.heap.size]? = some (.cells #[.int .i64 n.kind, .string n.data, .slice h.A n.ptrs.length h.a, .int .i64 n.size, .int .i64 n.count, .slice h.B n.items.length h.b] 32 (0, 0)) := (Below.heap_alloc _ _ _ (by simp; omega)).trans ((Below.heap_alloc _ _ _ (by simp)).trans (heap_alloc_new w _))
  have k1 : (((w.alloc (.cells #[.int .i64 n.kind, .string n.data, .slice h.A n.ptrs.length h.a, .int .i64 n.size, .int .i64 n.count, .slice h.B n.items.length h.b] 32)).alloc (.cells #[.int .i64 0, .string { data := #[] }, .slice none 0 0, .int .i64 0, .int .i64 0, .slice none 0 0] nodeT)).alloc (.cells #[.int .i64 n.kind, .string n.data, .slice none 0 0, .int .i64 0, .int .i64 0, .slice none 0 0] nodeT)).heap[w.heap.size + 1]? = some (.cells #[.int .i64 0, .string { data := #[] }, .slice none 0 0, .int .i64 0, .int .i64 0, .slice none 0 0] nodeT (0, 0)) := (Below.heap_alloc _ _ _ (by simp)).trans (by have := heap_alloc_new (w.alloc (.cells #[.int .i64 n.kind, .string n.data, .slice h.A n.ptrs.length h.a, .int .i64 n.size, .int .i64 n.count, .slice h.B n.items.length h.b] 32)) (.cells #[.int .i64 0, .string { data := #[] }, .slice none 0 0, .int .i64 0, .int .i64 0, .slice none 0 0] nodeT); rwa [show (w.alloc (.cells #[.int .i64 n.kind, .string n.data, .slice h.A n.ptrs.length h.a, .int .i64 n.size, .int .i64 n.count, .slice h.B n.items.length h.b] 32)).heap.size = w.heap.size + 1 by simp] at this)
  have k2 : (((w.alloc (.cells #[.int .i64 n.kind, .string n.data, .slice h.A n.ptrs.length h.a, .int .i64 n.size, .int .i64 n.count, .slice h.B n.items.length h.b] 32)).alloc (.cells #[.int .i64 0, .string { data := #[] }, .slice none 0 0, .int .i64 0, .int .i64 0, .slice none 0 0] nodeT)).alloc (.cells #[.int .i64 n.kind, .string n.data, .slice none 0 0, .int .i64 0, .int .i64 0, .slice none 0 0] nodeT)).heap[w.heap.size + 1 + 1]? = some (.cells #[.int .i64 n.kind, .string n.data, .slice none 0 0, .int .i64 0, .int .i64 0, .slice none 0 0] nodeT (0, 0)) := by have := heap_alloc_new ((w.alloc (.cells #[.int .i64 n.kind, .string n.data, .slice h.A n.ptrs.length h.a, .int .i64 n.size, .int .i64 n.count, .slice h.B n.items.length h.b] 32)).alloc (.cells #[.int .i64 0, .string { data := #[] }, .slice none 0 0, .int .i64 0, .int .i64 0, .slice none 0 0] nodeT)) (.cells #[.int .i64 n.kind, .string n.data, .slice none 0 0, .int .i64 0, .int .i64 0, .slice none 0 0] nodeT); rwa [show ((w.alloc (.cells #[.int .i64 n.kind, .string n.data, .slice h.A n.ptrs.length h.a, .int .i64 n.size, .int .i64 n.count, .slice h.B n.items.length h.b] 32)).alloc (.cells #[.int .i64 0, .string { data := #[] }, .slice none 0 0, .int .i64 0, .int .i64 0, .slice none 0 0] nodeT)).heap.size = w.heap.size + 1 + 1 by simp] at this
  have hs3 : (((w.alloc (.cells #[.int .i64 n.kind, .string n.data, .slice h.A n.ptrs.length h.a, .int .i64 n.size, .int .i64 n.count, .slice h.B n.items.length h.b] 32)).alloc (.cells #[.int .i64 0, .string { data := #[] }, .slice none 0 0, .int .i64 0, .int .i64 0, .slice none 0 0] nodeT)).alloc (.cells #[.int .i64 n.kind, .string n.data, .slice none 0 0, .int .i64 0, .int .i64 0, .slice none 0 0] nodeT)).heap.size = w.heap.size + 3 := by simp
  have hcl0 : CleanFrom w.heap.size (((w.alloc (.cells #[.int .i64 n.kind, .string n.data, .slice h.A n.ptrs.length h.a, .int .i64 n.size, .int .i64 n.count, .slice h.B n.items.length h.b] 32)).alloc (.cells #[.int .i64 0, .string { data := #[] }, .slice none 0 0, .int .i64 0, .int .i64 0, .slice none 0 0] nodeT)).alloc (.cells #[.int .i64 n.kind, .string n.data, .slice none 0 0, .int .i64 0, .int .i64 0, .slice none 0 0] nodeT)) := (((CleanFrom.refl w).alloc _ _).alloc _ _).alloc _ _
  generalize (((w.alloc (.cells #[.int .i64 n.kind, .string n.data, .slice h.A n.ptrs.length h.a, .int .i64 n.size, .int .i64 n.count, .slice h.B n.items.length h.b] 32)).alloc (.cells #[.int .i64 0, .string { data := #[] }, .slice none 0 0, .int .i64 0, .int .i64 0, .slice none 0 0] nodeT)).alloc (.cells #[.int .i64 n.kind, .string n.data, .slice none 0 0, .int .i64 0, .int .i64 0, .slice none 0 0] nodeT)) = W3 at *
  refine (HS.out h.A h.a n.ptrs W3 S (HN.out.below hb0).2.1 HT1.out).mono ?_
  rintro e w1 ⟨A1, c1, rfl, hn1, hb1, hcl1⟩
  have HC1 := Lib.hid (hcl0.call hb1 hcl1)
  have HN1 := Lib.hid hn1
  have k0' := (hb1.block _ (by omega)).trans k0
  have k1' := (hb1.block _ (by omega)).trans k1
  have k2' := (hb1.block _ (by omega)).trans k2
  have HB1 := Lib.hid (hb0.trans (hb1.mono (by omega)))
  have HS3 := Lib.hid hs3
  have HS1 := Lib.hid hb1.size
  have HK0 := Lib.hid k0'
  have HK1 := Lib.hid k1'
  have HK2 := Lib.hid k2'
  obtain ⟨a0, a1, a2, a3, a4, a5⟩ := cells6 k0'
  obtain ⟨b0, b1, b2, b3, b4, b5⟩ := cells6 k2'
  have f2 := row_free k2'
  clear hcl0 hcl1 hn1 hb1 k0 k1 k2 k0' k1' k2' hs3 hb0
  go_wp2_with fail
  have hu5 : Upon (w.heap.size + 3) w1 (((w1.setCell ⟨w.heap.size + 1 + 1, 2, none⟩ (.slice A1 n.ptrs.length c1)).setCell ⟨w.heap.size + 1 + 1, 3, none⟩ (.int .i64 n.size)).setCell ⟨w.heap.size + 1 + 1, 4, none⟩ (.int .i64 n.count)) := (((Upon.refl _ w1).setCell (p := ⟨w.heap.size + 1 + 1, 2, none⟩) (by simp) _).setCell (p := ⟨w.heap.size + 1 + 1, 3, none⟩) (by simp) _).setCell (p := ⟨w.heap.size + 1 + 1, 4, none⟩) (by simp) _
  have hb5 : Below w.heap.size w (((w1.setCell ⟨w.heap.size + 1 + 1, 2, none⟩ (.slice A1 n.ptrs.length c1)).setCell ⟨w.heap.size + 1 + 1, 3, none⟩ (.int .i64 n.size)).setCell ⟨w.heap.size + 1 + 1, 4, none⟩ (.int .i64 n.count)) := ((HB1.out.setCell (p := ⟨w.heap.size + 1 + 1, 2, none⟩) (by simp; omega) _).setCell (p := ⟨w.heap.size + 1 + 1, 3, none⟩) (by simp; omega) _).setCell (p := ⟨w.heap.size + 1 + 1, 4, none⟩) (by simp; omega) _
  have j0 : ((((w1.setCell ⟨w.heap.size + 1 + 1, 2, none⟩ (.slice A1 n.ptrs.length c1)).setCell ⟨w.heap.size + 1 + 1, 3, none⟩ (.int .i64 n.size)).setCell ⟨w.heap.size + 1 + 1, 4, none⟩ (.int .i64 n.count))).heap[w.heap.size]? = some (.cells #[.int .i64 n.kind, .string n.data, .slice h.A n.ptrs.length h.a, .int .i64 n.size, .int .i64 n.count, .slice h.B n.items.length h.b] 32 (0, 0)) := (Below.heap_setCell _ _ _ _ (by simp; omega)).trans ((Below.heap_setCell _ _ _ _ (by simp; omega)).trans ((Below.heap_setCell _ _ _ _ (by simp; omega)).trans HK0.out))
  have j1 : ((((w1.setCell ⟨w.heap.size + 1 + 1, 2, none⟩ (.slice A1 n.ptrs.length c1)).setCell ⟨w.heap.size + 1 + 1, 3, none⟩ (.int .i64 n.size)).setCell ⟨w.heap.size + 1 + 1, 4, none⟩ (.int .i64 n.count))).heap[w.heap.size + 1]? = some (.cells #[.int .i64 0, .string { data := #[] }, .slice none 0 0, .int .i64 0, .int .i64 0, .slice none 0 0] nodeT (0, 0)) := (Below.heap_setCell _ _ _ _ (by simp)).trans ((Below.heap_setCell _ _ _ _ (by simp)).trans ((Below.heap_setCell _ _ _ _ (by simp)).trans HK1.out))
  have j2 : ((((w1.setCell ⟨w.heap.size + 1 + 1, 2, none⟩ (.slice A1 n.ptrs.length c1)).setCell ⟨w.heap.size + 1 + 1, 3, none⟩ (.int .i64 n.size)).setCell ⟨w.heap.size + 1 + 1, 4, none⟩ (.int .i64 n.count))).heap[w.heap.size + 1 + 1]? = some (.cells #[.int .i64 n.kind, .string n.data, .slice A1 n.ptrs.length c1, .int .i64 n.size, .int .i64 n.count, .slice none 0 0] nodeT (0, 0)) := row_setN (row_setN (row_setN HK2.out 2 _) 3 _) 4 _
  have hn5 : NdsAt (((w1.setCell ⟨w.heap.size + 1 + 1, 2, none⟩ (.slice A1 n.ptrs.length c1)).setCell ⟨w.heap.size + 1 + 1, 3, none⟩ (.int .i64 n.size)).setCell ⟨w.heap.size + 1 + 1, 4, none⟩ (.int .i64 n.count)) (From (w.heap.size + 3)) m A1 n.ptrs := (HN1.out.from_ (Nat.le_of_eq HS3.out.symm)).upon hu5
  have hs5 : w.heap.size + 3 ≤ ((((w1.setCell ⟨w.heap.size + 1 + 1, 2, none⟩ (.slice A1 n.ptrs.length c1)).setCell ⟨w.heap.size + 1 + 1, 3, none⟩ (.int .i64 n.size)).setCell ⟨w.heap.size + 1 + 1, 4, none⟩ (.int .i64 n.count))).heap.size := by have := hu5.size; have := HS1.out; have := HS3.out; omega
  have hcl5 : CleanFrom w.heap.size (((w1.setCell ⟨w.heap.size + 1 + 1, 2, none⟩ (.slice A1 n.ptrs.length c1)).setCell ⟨w.heap.size + 1 + 1, 3, none⟩ (.int .i64 n.size)).setCell ⟨w.heap.size + 1 + 1, 4, none⟩ (.int .i64 n.count)) := ((HC1.out.setCell _ _).setCell _ _).setCell _ _
  generalize (((w1.setCell ⟨w.heap.size + 1 + 1, 2, none⟩ (.slice A1 n.ptrs.length c1)).setCell ⟨w.heap.size + 1 + 1, 3, none⟩ (.int .i64 n.size)).setCell ⟨w.heap.size + 1 + 1, 4, none⟩ (.int .i64 n.count)) = W5 at *
  have HN5 := Lib.hid hn5
  have HS5 := Lib.hid hs5
  clear a0 a1 a2 a3 a4 a5 b0 b1 b2 b3 b4 b5 f2 hu5 HK0 HK1 HK2 HN1
  refine (HS.out h.B h.b n.items W5 S (HN.out.below hb5).2.2 HT2.out).mono ?_
  rintro e w2 ⟨A2, c2, rfl, hn2, hb2, hcl2⟩
  have HC2 := Lib.hid (hcl5.call hb2 hcl2)
  have HN2 := Lib.hid (hn2.from_ HS5.out)
  have HN1 := Lib.hid (HN5.out.below hb2)
  have HB2 := Lib.hid (hb5.trans (hb2.mono hb5.size))
  have k1 := (hb2.block _ (by omega)).trans j1
  have k2 := (hb2.block _ (by omega)).trans j2
  have hc0 : ∀ u i, (w2.setCell ⟨w.heap.size + 1 + 1, 5, none⟩ u).cell? ⟨w.heap.size + 1, i, none⟩ = (#[.int .i64 0, .string { data := #[] }, .slice none 0 0, .int .i64 0, .int .i64 0, .slice none 0 0] : Array Value)[i]? := fun u i => cell_of_row _ _ _ _ _ _ ((Below.heap_setCell w2 ⟨w.heap.size + 1 + 1, 5, none⟩ u (w.heap.size + 1) (by simp)).trans k1)
  obtain ⟨b0, b1, b2, b3, b4, b5⟩ := cells6 k2
  have f2 := row_free k2
  have hf1 : ∀ u i, (w2.setCell ⟨w.heap.size + 1 + 1, 5, none⟩ u).frozen? ⟨w.heap.size + 1, i, none⟩ = false := fun u i => row_free ((Below.heap_setCell w2 ⟨w.heap.size + 1 + 1, 5, none⟩ u (w.heap.size + 1) (by simp)).trans k1) i
  have HK1 := Lib.hid k1
  have HK2 := Lib.hid k2
  clear hcl5 hcl2 k1 k2 j0 j1 j2 hn5 hs5 hb5 hn2 hb2 HN5
  go_wp2_with fail
  have kw := row_setN (row_setN (row_setN (row_setN (row_setN (row_setN ((Below.heap_setCell w2 ⟨w.heap.size + 1 + 1, 5, none⟩ (.slice A2 n.items.length c2) (w.heap.size + 1) (by simp)).trans HK1.out) 0 (.int .i64 n.kind)) 1 (.string n.data)) 2 (.slice A1 n.ptrs.length c1)) 3 (.int .i64 n.size)) 4 (.int .i64 n.count)) 5 (.slice A2 n.items.length c2)
  have hbw := ((((((HB2.out.setCell (p := ⟨w.heap.size + 1 + 1, 5, none⟩) (by simp; omega) (.slice A2 n.items.length c2)).setCell (p := ⟨w.heap.size + 1, 0, none⟩) (by simp) (.int .i64 n.kind)).setCell (p := ⟨w.heap.size + 1, 1, none⟩) (by simp) (.string n.data)).setCell (p := ⟨w.heap.size + 1, 2, none⟩) (by simp) (.slice A1 n.ptrs.length c1)).setCell (p := ⟨w.heap.size + 1, 3, none⟩) (by simp) (.int .i64 n.size)).setCell (p := ⟨w.heap.size + 1, 4, none⟩) (by simp) (.int .i64 n.count)).setCell (p := ⟨w.heap.size + 1, 5, none⟩) (by simp) (.slice A2 n.items.length c2)
  have huw := (((((((Upon.refl (w.heap.size + 3) w2).setCell (p := ⟨w.heap.size + 1 + 1, 5, none⟩) (by simp) (.slice A2 n.items.length c2)).setCell (p := ⟨w.heap.size + 1, 0, none⟩) (by simp) (.int .i64 n.kind)).setCell (p := ⟨w.heap.size + 1, 1, none⟩) (by simp) (.string n.data)).setCell (p := ⟨w.heap.size + 1, 2, none⟩) (by simp) (.slice A1 n.ptrs.length c1)).setCell (p := ⟨w.heap.size + 1, 3, none⟩) (by simp) (.int .i64 n.size)).setCell (p := ⟨w.heap.size + 1, 4, none⟩) (by simp) (.int .i64 n.count)).setCell (p := ⟨w.heap.size + 1, 5, none⟩) (by simp) (.slice A2 n.items.length c2)
  have hclw : CleanFrom w.heap.size (((((((w2.setCell ⟨w.heap.size + 1 + 1, 5, none⟩ (.slice A2 n.items.length c2)).setCell ⟨w.heap.size + 1, 0, none⟩ (.int .i64 n.kind)).setCell ⟨w.heap.size + 1, 1, none⟩ (.string n.data)).setCell ⟨w.heap.size + 1, 2, none⟩ (.slice A1 n.ptrs.length c1)).setCell ⟨w.heap.size + 1, 3, none⟩ (.int .i64 n.size)).setCell ⟨w.heap.size + 1, 4, none⟩ (.int .i64 n.count)).setCell ⟨w.heap.size + 1, 5, none⟩ (.slice A2 n.items.length c2)) := ((((((HC2.out.setCell _ _).setCell _ _).setCell _ _).setCell _ _).setCell _ _).setCell _ _).setCell _ _
  generalize (((((((w2.setCell ⟨w.heap.size + 1 + 1, 5, none⟩ (.slice A2 n.items.length c2)).setCell ⟨w.heap.size + 1, 0, none⟩ (.int .i64 n.kind)).setCell ⟨w.heap.size + 1, 1, none⟩ (.string n.data)).setCell ⟨w.heap.size + 1, 2, none⟩ (.slice A1 n.ptrs.length c1)).setCell ⟨w.heap.size + 1, 3, none⟩ (.int .i64 n.size)).setCell ⟨w.heap.size + 1, 4, none⟩ (.int .i64 n.count)).setCell ⟨w.heap.size + 1, 5, none⟩ (.slice A2 n.items.length c2)) = W at *
  obtain ⟨e0, e1, e2, e3, e4, e5⟩ := cells6 kw
  exact bodyPost_ret (v := .agg #[.int .i64 n.kind, .string n.data, .slice A1 n.ptrs.length c1, .int .i64 n.size, .int .i64 n.count, .slice A2 n.items.length c2])
    (by simp [results, Try.results12, go_sem, e0, e1, e2, e3, e4, e5]) rfl ⟨⟨A1, c1, A2, c2⟩, rfl, ⟨HN.out.1, (HN1.out.upon huw).from_ (by omega), (HN2.out.upon huw).from_ (by omega)⟩, hbw, hclw⟩
theorem toSC_zero : ToSC 0 := by
  intro A c l w S hl ht
  obtain rfl := hl.zero
  obtain ⟨i0, hi, hz0, hz1, hz2⟩ := info_parts infoNd
  have hmk : ∀ w : World, (Instr.makeSlice nodesT (.int .i64 0) (.int .i64 0)).run Try.prog w = .ok (.slice (some ⟨w.heap.size, 0, none⟩) 0 0) (w.alloc (.cells (madeCells #[.int .i64 0, .string ByteArray.empty, .slice none 0 0, .int .i64 0, .int .i64 0, .slice none 0 0] 0) nodeT)) := fun w => by
    have := run_make (P := Try.prog) w nodesT nodeT i0 _ Try.underlying23 hi hz0 .i64 .i64 0 0 (by omega) (Int.le_refl _) (by rw [hz2]; omega) (by omega)
    rw [hz1] at this
    exact this
  clear ht
  go_enter Try.func35, Try.ntmps35
  go_wp2
  go_loopw [4] (fun i wr => i = .int .i64 0 ∧ Hid (Below w.heap.size w wr ∧ CleanFrom w.heap.size wr)) (fun _ _ => 0)
  case atStart => exact ⟨rfl, Lib.hid ⟨(Below.refl _ _).alloc (Nat.le_refl _) _, (CleanFrom.refl w).alloc _ _⟩⟩
  case round =>
    obtain ⟨rfl, HB⟩ := hrel
    go_wp2
    go_ret
    exact ⟨_, _, rfl, rfl, HB.out.1, HB.out.2⟩
set_option maxHeartbeats 4000000 in
set_option maxRecDepth 100000 in
theorem toSC_succ (m : Nat) (hN : ToNC m) : ToSC (m + 1) := by
  intro A c l w S hl ht
  have hlm : l.length ≤ 2000000 := Nat.le_trans (totL_len m l) ht
  obtain ⟨i0, hi, hz0, hz1, hz2⟩ := info_parts infoNd
  have hmk : ∀ w : World, (Instr.makeSlice nodesT (.int .i64 (l.length : Int)) (.int .i64 (l.length : Int))).run Try.prog w = .ok (.slice (some ⟨w.heap.size, 0, none⟩) l.length l.length) (w.alloc (.cells (madeCells #[.int .i64 0, .string ByteArray.empty, .slice none 0 0, .int .i64 0, .int .i64 0, .slice none 0 0] (l.length * 6)) nodeT)) := fun w => by
    have := run_make (P := Try.prog) w nodesT nodeT i0 _ Try.underlying23 hi hz0 .i64 .i64 (l.length : Int) (l.length : Int) (by omega) (Int.le_refl _) (by rw [hz2]; omega) (by omega)
    rw [hz1] at this
    simp only [Int.toNat_natCast] at this
    exact this
  have HF := Lib.hid hl
  have HN := Lib.hid hN
  have HT : Hid (∀ k (h : k < l.length), totN m l[k] ≤ 2000000) := Lib.hid fun k h => by have := totL_at (m := m) h; omega
  clear hl hN ht
  go_enter Try.func35, Try.ntmps35
  go_wp2
  have HROW := Lib.hid (heap_alloc_new w (.cells (madeCells #[.int .i64 0, .string ByteArray.empty, .slice none 0 0, .int .i64 0, .int .i64 0, .slice none 0 0] (l.length * 6)) nodeT))
  obtain ⟨x, hx⟩ : ∃ x : Addr, x = ⟨w.heap.size, 0, none⟩ := ⟨_, rfl⟩
  rw [← hx]
  have HX := Lib.hid hx
  clear hx hmk
  go_loopw [4] (fun i wr => ∃ k : Nat, i = .int .i64 k ∧ k ≤ l.length ∧ Hid (∃ (arr : Array Value) (q : List (Nd × Hd)), wr.heap[w.heap.size]? = some (.cells arr nodeT (0, 0)) ∧ arr.size = l.length * 6 ∧ q.map (·.1) = l.take k ∧ (∀ (j : Nat) (u : Value), (rowOf q)[j]? = some u → arr[j]? = some u) ∧ ∀ r ∈ q, NdAt wr (From (w.heap.size + 1)) m r.1 r.2) ∧ Hid (Below w.heap.size w wr) ∧ Hid (CleanFrom w.heap.size wr)) (fun i _ => l.length - (intOf i).toNat)
  case atStart => exact ⟨0, rfl, by omega, Lib.hid ⟨_, [], HROW.out, by rw [size_madeCells], rfl, fun j u h => by simp [rowOf] at h, fun r h => by cases h⟩, Lib.hid ((Below.refl _ _).alloc (Nat.le_refl _) _), Lib.hid ((CleanFrom.refl w).alloc _ _)⟩
  case round =>
    obtain ⟨k, rfl, hk, HA, HB, HC⟩ := hrel
    by_cases hlt : k < l.length
    · obtain ⟨y, hd, rfl, hc, hn⟩ := (HF.out.below HB.out).at_ hlt
      obtain ⟨arr, q, hrow, hsz, hq, harr, hqn⟩ := HA.out
      have hql : q.length = k := by have := congrArg List.length hq; simp at this; omega
      have htk : l.take (k + 1) = l.take k ++ [l[k]] := List.take_succ_eq_append_getElem hlt
      have htn := HT.out k hlt
      generalize l[k] = n at hc hn htk htn
      obtain ⟨d0, d1, d2, d3, d4, d5⟩ := hc
      have hrlt := row_lt hrow
      have HP := Lib.hid (HN.out n hd wr S hn htn)
      have HROWK := Lib.hid hrow
      have HSZ := Lib.hid hsz
      have HQ := Lib.hid (And.intro hq (And.intro harr (And.intro hqn (And.intro hql htk))))
      clear hq harr hqn hql htk hn htn
      go_wp2_with fail
      refine HP.out.mono ?_
      rintro e w2 ⟨h2, rfl, hn2, hb2, hcl2⟩
      have HC2 := Lib.hid (HC.out.call hb2 hcl2)
      have hrow2 := (hb2.block w.heap.size hrlt).trans HROWK.out
      obtain ⟨v0, hv0⟩ := some_at0 (i := k * 6) hsz (by omega)
      obtain ⟨v1, hv1⟩ := some_at0 (i := k * 6 + 1) hsz (by omega)
      obtain ⟨v2, hv2⟩ := some_at0 (i := k * 6 + 2) hsz (by omega)
      obtain ⟨v3, hv3⟩ := some_at0 (i := k * 6 + 3) hsz (by omega)
      obtain ⟨v4, hv4⟩ := some_at0 (i := k * 6 + 4) hsz (by omega)
      obtain ⟨v5, hv5⟩ := some_at0 (i := k * 6 + 5) hsz (by omega)
      have hadd : x.add (k * 6) = ⟨w.heap.size, k * 6, none⟩ := by rw [HX.out, add_zero0]
      have p0 : w2.cell? ⟨w.heap.size, k * 6, none⟩ = some v0 := by rw [cell_of_row _ _ _ _ _ _ hrow2]; exact hv0
      have p1 : w2.cell? ⟨w.heap.size, k * 6 + 1, none⟩ = some v1 := by rw [cell_of_row _ _ _ _ _ _ hrow2]; exact hv1
      have p2 : w2.cell? ⟨w.heap.size, k * 6 + 2, none⟩ = some v2 := by rw [cell_of_row _ _ _ _ _ _ hrow2]; exact hv2
      have p3 : w2.cell? ⟨w.heap.size, k * 6 + 3, none⟩ = some v3 := by rw [cell_of_row _ _ _ _ _ _ hrow2]; exact hv3
      have p4 : w2.cell? ⟨w.heap.size, k * 6 + 4, none⟩ = some v4 := by rw [cell_of_row _ _ _ _ _ _ hrow2]; exact hv4
      have p5 : w2.cell? ⟨w.heap.size, k * 6 + 5, none⟩ = some v5 := by rw [cell_of_row _ _ _ _ _ _ hrow2]; exact hv5
      have z0 := row_free hrow2
      have HR2 := Lib.hid hrow2
      have HB2 := Lib.hid (HB.out.trans (hb2.mono HB.out.size))
      have HN2 := Lib.hid (hn2.from_ (B' := w.heap.size + 1) (by omega))
      have HQ2 : Hid (∀ r ∈ q, NdAt w2 (From (w.heap.size + 1)) m r.1 r.2) := Lib.hid fun r hr => (HQ.out.2.2.1 r hr).below hb2
      clear hcl2 hrow hsz hrow2 hb2 hv0 hv1 hv2 hv3 hv4 hv5 hn2
      go_wp2
      go_roundw
      case rel =>
        refine ⟨k + 1, by go_num, by omega, Lib.hid ⟨_, q ++ [(n, h2)], row_setN (row_setN (row_setN (row_setN (row_setN (row_setN HR2.out (k * 6) _) (k * 6 + 1) _) (k * 6 + 2) _) (k * 6 + 3) _) (k * 6 + 4) _) (k * 6 + 5) _, by simp [HSZ.out], ?_, ?_, ?_⟩, Lib.hid ?_, Lib.hid ((((((HC2.out.setCell _ _).setCell _ _).setCell _ _).setCell _ _).setCell _ _).setCell _ _)⟩
        · rw [List.map_append, HQ.out.1, HQ.out.2.2.2.2]; rfl
        · have := arr_step HQ.out.2.1 HSZ.out (by rw [HQ.out.2.2.2.1]; omega) (n, h2)
          rw [HQ.out.2.2.2.1] at this
          exact this
        · have hu := (((((((Upon.refl (w.heap.size + 1) w2).setCell (p := ⟨w.heap.size, k * 6, none⟩) (by simp) (.int .i64 n.kind)).setCell (p := ⟨w.heap.size, k * 6 + 1, none⟩) (by simp) (.string n.data)).setCell (p := ⟨w.heap.size, k * 6 + 2, none⟩) (by simp) (.slice h2.A n.ptrs.length h2.a)).setCell (p := ⟨w.heap.size, k * 6 + 3, none⟩) (by simp) (.int .i64 n.size)).setCell (p := ⟨w.heap.size, k * 6 + 4, none⟩) (by simp) (.int .i64 n.count)).setCell (p := ⟨w.heap.size, k * 6 + 5, none⟩) (by simp) (.slice h2.B n.items.length h2.b))
          intro r hr
          rcases List.mem_append.1 hr with hr | hr
          · exact (HQ2.out r hr).upon hu
          · obtain rfl := List.mem_singleton.1 hr
            exact HN2.out.upon hu
        · exact (((((HB2.out.setCell (p := ⟨w.heap.size, k * 6, none⟩) (Nat.le_refl _) _).setCell (p := ⟨w.heap.size, k * 6 + 1, none⟩) (Nat.le_refl _) _).setCell (p := ⟨w.heap.size, k * 6 + 2, none⟩) (Nat.le_refl _) _).setCell (p := ⟨w.heap.size, k * 6 + 3, none⟩) (Nat.le_refl _) _).setCell (p := ⟨w.heap.size, k * 6 + 4, none⟩) (Nat.le_refl _) _).setCell (p := ⟨w.heap.size, k * 6 + 5, none⟩) (Nat.le_refl _) _
      case measure => simp [intOf]; omega
    · obtain rfl : k = l.length := by omega
      obtain ⟨arr, q, hrow, hsz, hq, harr, hqn⟩ := HA.out
      rw [List.take_of_length_le (Nat.le_refl _)] at hq
      have HX2 := HX
      have HRES : Hid (NdsAt wr (From w.heap.size) (m + 1) (some ⟨w.heap.size, 0, none⟩) l) := Lib.hid (by
        have := nds_of_row (S := From w.heap.size) (m := m) hrow (Nat.le_refl _) (by have := congrArg List.length hq; simp at this; unfold maxLen; omega) harr (fun r hr => (hqn r hr).from_ (by omega))
        rwa [hq] at this)
      clear hrow hsz hq harr hqn HA
      go_wp2
      go_ret
      rw [HX2.out]
      exact ⟨_, _, rfl, HRES.out, HB.out, HC.out⟩
theorem toSC_any : ∀ m, ToSC m
  | 0 => toSC_zero
  | m + 1 => toSC_succ m (toNC_of m (toSC_any m))
theorem toNC_any (m : Nat) : ToNC m := toNC_of m (toSC_any m)
end Go.Proofs.Ytkimkhgigbejkab

/- The laws' own copies of strings in a list, and of values: in plain blocks. -/
namespace Go.Proofs.Ytkimkhgigbejkab
open Go.RowKit
/-- strings in new plain blocks. -/
def NewTC (ss : List ByteArray) (w : World) (e : Ending) (w' : World) : Prop := ∃ (A : Option Addr) (c : Nat), e = .returned (.slice A ss.length c) ∧ StrsIn w' (From w.heap.size) A ss ∧ Below w.heap.size w w' ∧ CleanFrom w.heap.size w'
set_option maxHeartbeats 4000000 in
set_option maxRecDepth 100000 in
theorem toStrC_any (A : Option Addr) (cap : Nat) (ss : List ByteArray) (w : World) (h : Strs w A ss) (hn : ss.length ≤ 1048576) :
    Calls Try.prog 41 #[.slice A ss.length cap] w (NewTC ss w) := by
  obtain ⟨i0, hi, hz0, hz1, hz2⟩ := info_parts infoStr
  have hmk : ∀ w : World, (Instr.makeSlice 37 (.int .i64 (ss.length : Int)) (.int .i64 (ss.length : Int))).run Try.prog w = .ok (.slice (some ⟨w.heap.size, 0, none⟩) ss.length ss.length) (w.alloc (.cells (madeCells #[.string ByteArray.empty] (ss.length * 1)) 9)) := fun w => by
    have := run_make (P := Try.prog) w 37 9 i0 _ Try.underlying37 hi hz0 .i64 .i64 (ss.length : Int) (ss.length : Int) (by omega) (Int.le_refl _) (by rw [hz2]; omega) (by omega)
    rw [hz1] at this
    simp only [Int.toNat_natCast] at this
    exact this
  have H := Lib.hid h
  clear h
  go_enter Try.func41, Try.ntmps41
  go_wp2
  have HROW := Lib.hid (heap_alloc_new w (.cells (madeCells #[.string ByteArray.empty] ss.length) 9))
  obtain ⟨x, hx⟩ : ∃ x : Addr, x = ⟨w.heap.size, 0, none⟩ := ⟨_, rfl⟩
  rw [← hx]
  have HX := Lib.hid hx
  clear hx hmk
  go_loopw [4] (fun i wr => ∃ k : Nat, i = .int .i64 k ∧ k ≤ ss.length ∧ Hid (∃ (arr : Array Value), wr.heap[w.heap.size]? = some (.cells arr 9 (0, 0)) ∧ arr.size = ss.length ∧ ∀ i (h : i < ss.length), i < k → arr[i]? = some (.string ss[i])) ∧ Hid (Below w.heap.size w wr) ∧ Hid (CleanFrom w.heap.size wr)) (fun i _ => ss.length - (intOf i).toNat)
  case atStart => exact ⟨0, rfl, by omega, Lib.hid ⟨_, HROW.out, by rw [size_madeCells], fun i _ h => by omega⟩, Lib.hid ((Below.refl _ _).alloc (Nat.le_refl _) _), Lib.hid ((CleanFrom.refl w).alloc _ _)⟩
  case round =>
    obtain ⟨k, rfl, hk, HA, HB, HC⟩ := hrel
    by_cases hk1 : k < ss.length
    · obtain ⟨a, rfl, hlt, hc⟩ := (H.out.below HB.out).2.resolve_left (by intro h; rw [h] at hk1; simp at hk1)
      have hck := hc k hk1
      obtain ⟨arr, hrow, hsz, harr⟩ := HA.out
      have hadd : x.add k = ⟨w.heap.size, k, none⟩ := by rw [HX.out, add_zero0]
      obtain ⟨v0, hv0⟩ := some_at0 (i := k) hsz (by omega)
      have p0 : wr.cell? ⟨w.heap.size, k, none⟩ = some v0 := by rw [cell_of_row _ _ _ _ _ _ hrow]; exact hv0
      have z0 := row_free hrow
      have HR := Lib.hid hrow
      have HAR := Lib.hid (And.intro hsz harr)
      clear hc hlt hrow hsz harr hv0
      go_wp2
      go_roundw
      case rel =>
        refine ⟨k + 1, by go_num, by omega, Lib.hid ⟨_, row_setN HR.out k _, by simp [HAR.out.1], fun i hi hik => ?_⟩, Lib.hid (HB.out.setCell (p := ⟨w.heap.size, k, none⟩) (Nat.le_refl _) _), Lib.hid (HC.out.setCell _ _)⟩
        by_cases he : i = k
        · subst he
          rw [Array.getElem?_setIfInBounds_self_of_lt (by rw [HAR.out.1]; omega)]
        · rw [Array.getElem?_setIfInBounds_ne (by omega)]
          exact HAR.out.2 i hi (by omega)
      case measure => simp [intOf]; omega
    · obtain rfl : k = ss.length := by omega
      have HX2 := HX
      have hss := H.out.1
      have HRES : Hid (StrsIn wr (From w.heap.size) (some ⟨w.heap.size, 0, none⟩) ss) := Lib.hid (by
        obtain ⟨arr, hrow, hsz, harr⟩ := HA.out
        refine ⟨by unfold maxLen; omega, ⟨hss, .inr ⟨⟨w.heap.size, 0, none⟩, rfl, row_lt hrow, fun i hi => ?_⟩⟩, .inr ⟨_, rfl, Nat.le_refl _⟩⟩
        rw [add_zero0, cell_of_row _ _ _ _ _ _ hrow]
        exact harr i hi hi)
      clear hss HA
      go_wp2
      go_ret
      rw [HX2.out]
      exact ⟨_, _, rfl, HRES.out, HB.out, HC.out⟩
abbrev datT : TypeId := 44
abbrev datsT : TypeId := 42
theorem infoDt : (Try.prog.info? datT).map (fun i => (i.zero, i.size, i.bytes)) = some (some (.agg #[.int .i64 0, .int .i64 0, .string ByteArray.empty, .slice none 0 0, .slice none 0 0]), 5, 80) := by kernel_rfl
/-- five cells are written behind the first k values. -/
theorem darr_step {arr : Array Value} {q : List (Dt × Hd)} {N : Nat} (h : ∀ (j : Nat) (u : Value), (rowD q)[j]? = some u → arr[j]? = some u) (hs : arr.size = N * 5) (hk : q.length < N) (r : Dt × Hd) :
    ∀ (j : Nat) (u : Value), (rowD (q ++ [r]))[j]? = some u → (((((arr.setIfInBounds (q.length * 5) (.int .i64 r.1.kind)).setIfInBounds (q.length * 5 + 1) (.int .i64 r.1.num)).setIfInBounds (q.length * 5 + 2) (.string r.1.text)).setIfInBounds (q.length * 5 + 3) (.slice r.2.A r.1.list.length r.2.a)).setIfInBounds (q.length * 5 + 4) (.slice r.2.B r.1.names.length r.2.b))[j]? = some u := by
  intro j u hj
  have hlt : j < (rowD (q ++ [r])).length := by
    rcases Nat.lt_or_ge j (rowD (q ++ [r])).length with h' | h'
    · exact h'
    · rw [List.getElem?_eq_none h'] at hj; cases hj
  rw [rowD_length] at hlt
  simp only [List.length_append, List.length_cons, List.length_nil] at hlt
  by_cases hj2 : j < q.length * 5
  · rw [rowD_app, List.getElem?_append_left (by rw [rowD_length]; exact hj2)] at hj
    rw [Array.getElem?_setIfInBounds_ne (by omega), Array.getElem?_setIfInBounds_ne (by omega), Array.getElem?_setIfInBounds_ne (by omega), Array.getElem?_setIfInBounds_ne (by omega), Array.getElem?_setIfInBounds_ne (by omega)]
    exact h j u hj
  · obtain ⟨a0, a1, a2, a3, a4⟩ := rowD_at (q ++ [r]) q.length r (by simp)
    have hcase : j = q.length * 5 ∨ j = q.length * 5 + 1 ∨ j = q.length * 5 + 2 ∨ j = q.length * 5 + 3 ∨ j = q.length * 5 + 4 := by omega
    rcases hcase with e | e | e | e | e
    · rw [e, a0] at hj
      cases hj
      rw [e, Array.getElem?_setIfInBounds_ne (by omega), Array.getElem?_setIfInBounds_ne (by omega), Array.getElem?_setIfInBounds_ne (by omega), Array.getElem?_setIfInBounds_ne (by omega), Array.getElem?_setIfInBounds_self_of_lt (by omega)]
    · rw [e, a1] at hj
      cases hj
      rw [e, Array.getElem?_setIfInBounds_ne (by omega), Array.getElem?_setIfInBounds_ne (by omega), Array.getElem?_setIfInBounds_ne (by omega), Array.getElem?_setIfInBounds_self_of_lt (by simp; omega)]
    · rw [e, a2] at hj
      cases hj
      rw [e, Array.getElem?_setIfInBounds_ne (by omega), Array.getElem?_setIfInBounds_ne (by omega), Array.getElem?_setIfInBounds_self_of_lt (by simp; omega)]
    · rw [e, a3] at hj
      cases hj
      rw [e, Array.getElem?_setIfInBounds_ne (by omega), Array.getElem?_setIfInBounds_self_of_lt (by simp; omega)]
    · rw [e, a4] at hj
      cases hj
      rw [e, Array.getElem?_setIfInBounds_self_of_lt (by simp; omega)]
theorem DtsAt.upon {w w' : World} {B m : Nat} {A : Option Addr} {l : List Dt} (h : DtsAt w (From B) m A l) (hu : Upon B w w') : DtsAt w' (From B) m A l := DtsAt.map (fun _ h => h) (fun k hk hs => hu.block k hs hk) hu.size _ _ _ h
theorem StrsIn.upon {w w' : World} {B : Nat} {A : Option Addr} {l : List ByteArray} (h : StrsIn w (From B) A l) (hu : Upon B w w') : StrsIn w' (From B) A l := h.map (fun _ h => h) (fun k hk hs => hu.block k hs hk) hu.size
theorem DtAt.upon {w w' : World} {B m : Nat} {n : Dt} {h : Hd} (hn : DtAt w (From B) m n h) (hu : Upon B w w') : DtAt w' (From B) m n h := ⟨hn.1, hn.2.1.upon hu, hn.2.2.upon hu⟩
theorem DtsAt.from_ {w : World} {B B' m : Nat} {A : Option Addr} {l : List Dt} (h : DtsAt w (From B) m A l) (hB : B' ≤ B) : DtsAt w (From B') m A l := h.weak (fun _ hk => Nat.le_trans hB hk)
theorem StrsIn.from_ {w : World} {B B' : Nat} {A : Option Addr} {l : List ByteArray} (h : StrsIn w (From B) A l) (hB : B' ≤ B) : StrsIn w (From B') A l := h.map (fun _ hk => Nat.le_trans hB hk) (fun _ _ _ => rfl) (Nat.le_refl _)
theorem DtAt.from_ {w : World} {B B' m : Nat} {n : Dt} {h : Hd} (hn : DtAt w (From B) m n h) (hB : B' ≤ B) : DtAt w (From B') m n h := hn.weak (fun _ hk => Nat.le_trans hB hk)
def NewDC (m : Nat) (n : Dt) (w : World) (e : Ending) (w' : World) : Prop := ∃ h : Hd, e = .returned (.agg #[.int .i64 n.kind, .int .i64 n.num, .string n.text, .slice h.A n.list.length h.a, .slice h.B n.names.length h.b]) ∧ DtAt w' (From w.heap.size) m n h ∧ Below w.heap.size w w' ∧ CleanFrom w.heap.size w'
def NewDSC (m : Nat) (l : List Dt) (w : World) (e : Ending) (w' : World) : Prop := ∃ (A : Option Addr) (c : Nat), e = .returned (.slice A l.length c) ∧ DtsAt w' (From w.heap.size) m A l ∧ Below w.heap.size w w' ∧ CleanFrom w.heap.size w'
def ToDSC (m : Nat) : Prop := ∀ (A : Option Addr) (c : Nat) (l : List Dt) (w : World) (S : Nat → Prop), DtsAt w S m A l → totDL m l ≤ 1048576 →
  Calls Try.prog 40 #[.slice A l.length c] w (NewDSC m l w)
def ToDC (m : Nat) : Prop := ∀ (n : Dt) (h : Hd) (w : World) (S : Nat → Prop), DtAt w S m n h → totD m n ≤ 1048576 →
  Calls Try.prog 16 #[.agg #[.int .i64 n.kind, .int .i64 n.num, .string n.text, .slice h.A n.list.length h.a, .slice h.B n.names.length h.b]] w (NewDC m n w)
set_option maxHeartbeats 4000000 in
set_option maxRecDepth 100000 in
theorem toDC_of (m : Nat) (hS : ToDSC m) : ToDC m := by
  intro n h w S hn ht
  have HS := Lib.hid hS
  have HN := Lib.hid hn
  have HT1 : Hid (totDL m n.list ≤ 1048576) := Lib.hid (by unfold totD at ht; omega)
  have HT2 : Hid (n.names.length ≤ 1048576) := Lib.hid (by unfold totD at ht; omega)
  clear hS hn ht
  go_enter Try.func16, Try.ntmps16
  go_wp2_with fail
  have hb0 : Below w.heap.size w (((w.alloc (.cells #[.int .i64 n.kind, .int .i64 n.num, .string n.text, .slice h.A n.list.length h.a, .slice h.B n.names.length h.b] 39)).alloc (.cells #[.int .i64 0, .int .i64 0, .string { data := #[] }, .slice none 0 0, .slice none 0 0] datT)).alloc (.cells #[.int .i64 n.kind, .int .i64 n.num, .string n.text, .slice none 0 0, .slice none 0 0] datT)) := (((Below.refl _ w).alloc (Nat.le_refl _) _).alloc (by simp) _).alloc (by simp; omega) _
  have k0 : (((w.alloc (.cells #[.int .i64 n.kind, .int .i64 n.num, .string n.text, .slice h.A n.list.length h.a, .slice h.B n.names.length h.b] 39)).alloc (.cells #[.int .i64 0, .int .i64 0, .string { data := #[] }, .slice none 0 0, .slice none 0 0] datT)).alloc (.cells #[.int .i64 n.kind, .int .i64 n.num, .string n.text, .slice none 0 0, .slice none 0 0] datT)).heap[w.heap.size]? = some (.cells #[.int .i64 n.kind, .int .i64 n.num, .string n.text, .slice h.A n.list.length h.a, .slice h.B n.names.length h.b] 39 (0, 0)) := (Below.heap_alloc _ _ _ (by simp; omega)).trans ((Below.heap_alloc _ _ _ (by simp)).trans (heap_alloc_new w _))
  have k1 : (((w.alloc (.cells #[.int .i64 n.kind, .int .i64 n.num, .string n.text, .slice h.A n.list.length h.a, .slice h.B n.names.length h.b] 39)).alloc (.cells #[.int .i64 0, .int .i64 0, .string { data := #[] }, .slice none 0 0, .slice none 0 0] datT)).alloc (.cells #[.int .i64 n.kind, .int .i64 n.num, .string n.text, .slice none 0 0, .slice none 0 0] datT)).heap[w.heap.size + 1]? = some (.cells #[.int .i64 0, .int .i64 0, .string { data := #[] }, .slice none 0 0, .slice none 0 0] datT (0, 0)) := (Below.heap_alloc _ _ _ (by simp)).trans (by have := heap_alloc_new (w.alloc (.cells #[.int .i64 n.kind, .int .i64 n.num, .string n.text, .slice h.A n.list.length h.a, .slice h.B n.names.length h.b] 39)) (.cells #[.int .i64 0, .int .i64 0, .string { data := #[] }, .slice none 0 0, .slice none 0 0] datT); rwa [show (w.alloc (.cells #[.int .i64 n.kind, .int .i64 n.num, .string n.text, .slice h.A n.list.length h.a, .slice h.B n.names.length h.b] 39)).heap.size = w.heap.size + 1 by simp] at this)
  have k2 : (((w.alloc (.cells #[.int .i64 n.kind, .int .i64 n.num, .string n.text, .slice h.A n.list.length h.a, .slice h.B n.names.length h.b] 39)).alloc (.cells #[.int .i64 0, .int .i64 0, .string { data := #[] }, .slice none 0 0, .slice none 0 0] datT)).alloc (.cells #[.int .i64 n.kind, .int .i64 n.num, .string n.text, .slice none 0 0, .slice none 0 0] datT)).heap[w.heap.size + 1 + 1]? = some (.cells #[.int .i64 n.kind, .int .i64 n.num, .string n.text, .slice none 0 0, .slice none 0 0] datT (0, 0)) := by have := heap_alloc_new ((w.alloc (.cells #[.int .i64 n.kind, .int .i64 n.num, .string n.text, .slice h.A n.list.length h.a, .slice h.B n.names.length h.b] 39)).alloc (.cells #[.int .i64 0, .int .i64 0, .string { data := #[] }, .slice none 0 0, .slice none 0 0] datT)) (.cells #[.int .i64 n.kind, .int .i64 n.num, .string n.text, .slice none 0 0, .slice none 0 0] datT); rwa [show ((w.alloc (.cells #[.int .i64 n.kind, .int .i64 n.num, .string n.text, .slice h.A n.list.length h.a, .slice h.B n.names.length h.b] 39)).alloc (.cells #[.int .i64 0, .int .i64 0, .string { data := #[] }, .slice none 0 0, .slice none 0 0] datT)).heap.size = w.heap.size + 1 + 1 by simp] at this
  have hs3 : (((w.alloc (.cells #[.int .i64 n.kind, .int .i64 n.num, .string n.text, .slice h.A n.list.length h.a, .slice h.B n.names.length h.b] 39)).alloc (.cells #[.int .i64 0, .int .i64 0, .string { data := #[] }, .slice none 0 0, .slice none 0 0] datT)).alloc (.cells #[.int .i64 n.kind, .int .i64 n.num, .string n.text, .slice none 0 0, .slice none 0 0] datT)).heap.size = w.heap.size + 3 := by simp
  have hcl0 : CleanFrom w.heap.size (((w.alloc (.cells #[.int .i64 n.kind, .int .i64 n.num, .string n.text, .slice h.A n.list.length h.a, .slice h.B n.names.length h.b] 39)).alloc (.cells #[.int .i64 0, .int .i64 0, .string { data := #[] }, .slice none 0 0, .slice none 0 0] datT)).alloc (.cells #[.int .i64 n.kind, .int .i64 n.num, .string n.text, .slice none 0 0, .slice none 0 0] datT)) := (((CleanFrom.refl w).alloc _ _).alloc _ _).alloc _ _
  generalize (((w.alloc (.cells #[.int .i64 n.kind, .int .i64 n.num, .string n.text, .slice h.A n.list.length h.a, .slice h.B n.names.length h.b] 39)).alloc (.cells #[.int .i64 0, .int .i64 0, .string { data := #[] }, .slice none 0 0, .slice none 0 0] datT)).alloc (.cells #[.int .i64 n.kind, .int .i64 n.num, .string n.text, .slice none 0 0, .slice none 0 0] datT)) = W3' at *
  refine (HS.out h.A h.a n.list W3' S (HN.out.below hb0).2.1 HT1.out).mono ?_
  rintro e w1 ⟨A1, c1, rfl, hn1, hb1, hcl1⟩
  have HC1 := Lib.hid (hcl0.call hb1 hcl1)
  have k0' := (hb1.block _ (by omega)).trans k0
  have k1' := (hb1.block _ (by omega)).trans k1
  have k2' := (hb1.block _ (by omega)).trans k2
  have HB1 := Lib.hid (hb0.trans (hb1.mono (by omega)))
  have hs1 := hb1.size
  have HN1 := Lib.hid (hn1.from_ (B' := w.heap.size + 3) (by omega))
  have HK0 := Lib.hid k0'
  have HK1 := Lib.hid k1'
  have HK2 := Lib.hid k2'
  obtain ⟨a0, a1, a2, a3, a4⟩ := cells5 k0'
  obtain ⟨b0, b1, b2, b3, b4⟩ := cells5 k2'
  have f2 := row_free k2'
  clear hcl0 hcl1 hn1 hb1 k0 k1 k2 k0' k1' k2' hb0
  have hu5 : Upon (w.heap.size + 3) w1 (w1.setCell ⟨w.heap.size + 1 + 1, 3, none⟩ (.slice A1 n.list.length c1)) := (Upon.refl _ w1).setCell (p := ⟨w.heap.size + 1 + 1, 3, none⟩) (by simp) _
  have hb5 : Below w.heap.size w (w1.setCell ⟨w.heap.size + 1 + 1, 3, none⟩ (.slice A1 n.list.length c1)) := HB1.out.setCell (p := ⟨w.heap.size + 1 + 1, 3, none⟩) (by simp; omega) _
  have j0 : (w1.setCell ⟨w.heap.size + 1 + 1, 3, none⟩ (.slice A1 n.list.length c1)).heap[w.heap.size]? = some (.cells #[.int .i64 n.kind, .int .i64 n.num, .string n.text, .slice h.A n.list.length h.a, .slice h.B n.names.length h.b] 39 (0, 0)) := (Below.heap_setCell _ _ _ _ (by simp; omega)).trans HK0.out
  have j1 : (w1.setCell ⟨w.heap.size + 1 + 1, 3, none⟩ (.slice A1 n.list.length c1)).heap[w.heap.size + 1]? = some (.cells #[.int .i64 0, .int .i64 0, .string { data := #[] }, .slice none 0 0, .slice none 0 0] datT (0, 0)) := (Below.heap_setCell _ _ _ _ (by simp)).trans HK1.out
  have j2 : (w1.setCell ⟨w.heap.size + 1 + 1, 3, none⟩ (.slice A1 n.list.length c1)).heap[w.heap.size + 1 + 1]? = some (.cells #[.int .i64 n.kind, .int .i64 n.num, .string n.text, .slice A1 n.list.length c1, .slice none 0 0] datT (0, 0)) := row_setN HK2.out 3 _
  have hn5 : DtsAt (w1.setCell ⟨w.heap.size + 1 + 1, 3, none⟩ (.slice A1 n.list.length c1)) (From (w.heap.size + 3)) m A1 n.list := HN1.out.upon hu5
  have hs5 : w.heap.size + 3 ≤ (w1.setCell ⟨w.heap.size + 1 + 1, 3, none⟩ (.slice A1 n.list.length c1)).heap.size := by have := hu5.size; omega
  have hcl5 : CleanFrom w.heap.size (w1.setCell ⟨w.heap.size + 1 + 1, 3, none⟩ (.slice A1 n.list.length c1)) := HC1.out.setCell _ _
  obtain ⟨g0, g1, g2, g3, g4⟩ := cells5 j0
  clear g0 g1 g2 g3
  go_wp2_with fail
  clear a0 a1 a2 a3 a4 b0 b1 b2 b3 b4 f2 hu5 HK0 HK1 HK2 HN1 g4
  generalize w1.setCell ⟨w.heap.size + 1 + 1, 3, none⟩ (.slice A1 n.list.length c1) = W5' at *
  refine (toStrC_any h.B h.b n.names W5' (HN.out.below hb5).2.2.2.1 HT2.out).mono ?_
  rintro e w2 ⟨A2, c2, rfl, hn2, hb2, hcl2⟩
  have HC2 := Lib.hid (hcl5.call hb2 hcl2)
  have HN2 := Lib.hid (hn2.from_ hs5)
  have HN1 := Lib.hid (hn5.below hb2)
  have HB2 := Lib.hid (hb5.trans (hb2.mono hb5.size))
  have k1 := (hb2.block _ (by omega)).trans j1
  have k2 := (hb2.block _ (by omega)).trans j2
  have hc0 : ∀ u i, (w2.setCell ⟨w.heap.size + 1 + 1, 4, none⟩ u).cell? ⟨w.heap.size + 1, i, none⟩ = (#[.int .i64 0, .int .i64 0, .string { data := #[] }, .slice none 0 0, .slice none 0 0] : Array Value)[i]? := fun u i => cell_of_row _ _ _ _ _ _ ((Below.heap_setCell w2 ⟨w.heap.size + 1 + 1, 4, none⟩ u (w.heap.size + 1) (by simp)).trans k1)
  obtain ⟨b0, b1, b2, b3, b4⟩ := cells5 k2
  have f2 := row_free k2
  have hf1 : ∀ u i, (w2.setCell ⟨w.heap.size + 1 + 1, 4, none⟩ u).frozen? ⟨w.heap.size + 1, i, none⟩ = false := fun u i => row_free ((Below.heap_setCell w2 ⟨w.heap.size + 1 + 1, 4, none⟩ u (w.heap.size + 1) (by simp)).trans k1) i
  have HK1 := Lib.hid k1
  have HK2 := Lib.hid k2
  clear hcl5 hcl2 k1 k2 j0 j1 j2 hn5 hs5 hb5 hn2 hb2
  go_wp2_with fail
  have kw := row_setN (row_setN (row_setN (row_setN (row_setN ((Below.heap_setCell w2 ⟨w.heap.size + 1 + 1, 4, none⟩ (.slice A2 n.names.length c2) (w.heap.size + 1) (by simp)).trans HK1.out) 0 (.int .i64 n.kind)) 1 (.int .i64 n.num)) 2 (.string n.text)) 3 (.slice A1 n.list.length c1)) 4 (.slice A2 n.names.length c2)
  have hbw := (((((HB2.out.setCell (p := ⟨w.heap.size + 1 + 1, 4, none⟩) (by simp; omega) (.slice A2 n.names.length c2)).setCell (p := ⟨w.heap.size + 1, 0, none⟩) (by simp) (.int .i64 n.kind)).setCell (p := ⟨w.heap.size + 1, 1, none⟩) (by simp) (.int .i64 n.num)).setCell (p := ⟨w.heap.size + 1, 2, none⟩) (by simp) (.string n.text)).setCell (p := ⟨w.heap.size + 1, 3, none⟩) (by simp) (.slice A1 n.list.length c1)).setCell (p := ⟨w.heap.size + 1, 4, none⟩) (by simp) (.slice A2 n.names.length c2)
  have huw := ((((((Upon.refl (w.heap.size + 3) w2).setCell (p := ⟨w.heap.size + 1 + 1, 4, none⟩) (by simp) (.slice A2 n.names.length c2)).setCell (p := ⟨w.heap.size + 1, 0, none⟩) (by simp) (.int .i64 n.kind)).setCell (p := ⟨w.heap.size + 1, 1, none⟩) (by simp) (.int .i64 n.num)).setCell (p := ⟨w.heap.size + 1, 2, none⟩) (by simp) (.string n.text)).setCell (p := ⟨w.heap.size + 1, 3, none⟩) (by simp) (.slice A1 n.list.length c1)).setCell (p := ⟨w.heap.size + 1, 4, none⟩) (by simp) (.slice A2 n.names.length c2)
  have hclw : CleanFrom w.heap.size ((((((w2.setCell ⟨w.heap.size + 1 + 1, 4, none⟩ (.slice A2 n.names.length c2)).setCell ⟨w.heap.size + 1, 0, none⟩ (.int .i64 n.kind)).setCell ⟨w.heap.size + 1, 1, none⟩ (.int .i64 n.num)).setCell ⟨w.heap.size + 1, 2, none⟩ (.string n.text)).setCell ⟨w.heap.size + 1, 3, none⟩ (.slice A1 n.list.length c1)).setCell ⟨w.heap.size + 1, 4, none⟩ (.slice A2 n.names.length c2)) := (((((HC2.out.setCell _ _).setCell _ _).setCell _ _).setCell _ _).setCell _ _).setCell _ _
  generalize ((((((w2.setCell ⟨w.heap.size + 1 + 1, 4, none⟩ (.slice A2 n.names.length c2)).setCell ⟨w.heap.size + 1, 0, none⟩ (.int .i64 n.kind)).setCell ⟨w.heap.size + 1, 1, none⟩ (.int .i64 n.num)).setCell ⟨w.heap.size + 1, 2, none⟩ (.string n.text)).setCell ⟨w.heap.size + 1, 3, none⟩ (.slice A1 n.list.length c1)).setCell ⟨w.heap.size + 1, 4, none⟩ (.slice A2 n.names.length c2)) = W at *
  obtain ⟨e0, e1, e2, e3, e4⟩ := cells5 kw
  exact bodyPost_ret (v := .agg #[.int .i64 n.kind, .int .i64 n.num, .string n.text, .slice A1 n.list.length c1, .slice A2 n.names.length c2])
    (by simp [results, Try.results16, go_sem, e0, e1, e2, e3, e4]) rfl ⟨⟨A1, c1, A2, c2⟩, rfl, ⟨HN.out.1, (HN1.out.upon huw).from_ (by omega), (HN2.out.upon huw).from_ (by omega)⟩, hbw, hclw⟩
theorem toDSC_zero : ToDSC 0 := by
  intro A c l w S hl ht
  obtain rfl := hl.zero
  obtain ⟨i0, hi, hz0, hz1, hz2⟩ := info_parts infoDt
  have hmk : ∀ w : World, (Instr.makeSlice datsT (.int .i64 0) (.int .i64 0)).run Try.prog w = .ok (.slice (some ⟨w.heap.size, 0, none⟩) 0 0) (w.alloc (.cells (madeCells #[.int .i64 0, .int .i64 0, .string ByteArray.empty, .slice none 0 0, .slice none 0 0] 0) datT)) := fun w => by
    have := run_make (P := Try.prog) w datsT datT i0 _ Try.underlying42 hi hz0 .i64 .i64 0 0 (by omega) (Int.le_refl _) (by rw [hz2]; omega) (by omega)
    rw [hz1] at this
    exact this
  clear ht
  go_enter Try.func40, Try.ntmps40
  go_wp2
  go_loopw [4] (fun i wr => i = .int .i64 0 ∧ Hid (Below w.heap.size w wr ∧ CleanFrom w.heap.size wr)) (fun _ _ => 0)
  case atStart => exact ⟨rfl, Lib.hid ⟨(Below.refl _ _).alloc (Nat.le_refl _) _, (CleanFrom.refl w).alloc _ _⟩⟩
  case round =>
    obtain ⟨rfl, HB⟩ := hrel
    go_wp2
    go_ret
    exact ⟨_, _, rfl, rfl, HB.out.1, HB.out.2⟩
set_option maxHeartbeats 4000000 in
set_option maxRecDepth 100000 in
theorem toDSC_succ (m : Nat) (hN : ToDC m) : ToDSC (m + 1) := by
  intro A c l w S hl ht
  have hlm : l.length ≤ 1048576 := Nat.le_trans (totDL_len m l) ht
  obtain ⟨i0, hi, hz0, hz1, hz2⟩ := info_parts infoDt
  have hmk : ∀ w : World, (Instr.makeSlice datsT (.int .i64 (l.length : Int)) (.int .i64 (l.length : Int))).run Try.prog w = .ok (.slice (some ⟨w.heap.size, 0, none⟩) l.length l.length) (w.alloc (.cells (madeCells #[.int .i64 0, .int .i64 0, .string ByteArray.empty, .slice none 0 0, .slice none 0 0] (l.length * 5)) datT)) := fun w => by
    have := run_make (P := Try.prog) w datsT datT i0 _ Try.underlying42 hi hz0 .i64 .i64 (l.length : Int) (l.length : Int) (by omega) (Int.le_refl _) (by rw [hz2]; omega) (by omega)
    rw [hz1] at this
    simp only [Int.toNat_natCast] at this
    exact this
  have HF := Lib.hid hl
  have HN := Lib.hid hN
  have HT : Hid (∀ k (h : k < l.length), totD m l[k] ≤ 1048576) := Lib.hid fun k h => by have := totDL_at (m := m) h; omega
  clear hl hN ht
  go_enter Try.func40, Try.ntmps40
  go_wp2
  have HROW := Lib.hid (heap_alloc_new w (.cells (madeCells #[.int .i64 0, .int .i64 0, .string ByteArray.empty, .slice none 0 0, .slice none 0 0] (l.length * 5)) datT))
  obtain ⟨x, hx⟩ : ∃ x : Addr, x = ⟨w.heap.size, 0, none⟩ := ⟨_, rfl⟩
  rw [← hx]
  have HX := Lib.hid hx
  clear hx hmk
  go_loopw [4] (fun i wr => ∃ k : Nat, i = .int .i64 k ∧ k ≤ l.length ∧ Hid (∃ (arr : Array Value) (q : List (Dt × Hd)), wr.heap[w.heap.size]? = some (.cells arr datT (0, 0)) ∧ arr.size = l.length * 5 ∧ q.map (·.1) = l.take k ∧ (∀ (j : Nat) (u : Value), (rowD q)[j]? = some u → arr[j]? = some u) ∧ ∀ r ∈ q, DtAt wr (From (w.heap.size + 1)) m r.1 r.2) ∧ Hid (Below w.heap.size w wr) ∧ Hid (CleanFrom w.heap.size wr)) (fun i _ => l.length - (intOf i).toNat)
  case atStart => exact ⟨0, rfl, by omega, Lib.hid ⟨_, [], HROW.out, by rw [size_madeCells], rfl, fun j u h => by simp [rowD] at h, fun r h => by cases h⟩, Lib.hid ((Below.refl _ _).alloc (Nat.le_refl _) _), Lib.hid ((CleanFrom.refl w).alloc _ _)⟩
  case round =>
    obtain ⟨k, rfl, hk, HA, HB, HC⟩ := hrel
    by_cases hlt : k < l.length
    · obtain ⟨y, hd, rfl, hc, hn⟩ := (HF.out.below HB.out).at_ hlt
      obtain ⟨arr, q, hrow, hsz, hq, harr, hqn⟩ := HA.out
      have hql : q.length = k := by have := congrArg List.length hq; simp at this; omega
      have htk : l.take (k + 1) = l.take k ++ [l[k]] := List.take_succ_eq_append_getElem hlt
      have htn := HT.out k hlt
      generalize l[k] = n at hc hn htk htn
      obtain ⟨d0, d1, d2, d3, d4⟩ := hc
      have hrlt := row_lt hrow
      have HP := Lib.hid (HN.out n hd wr S hn htn)
      have HROWK := Lib.hid hrow
      have HSZ := Lib.hid hsz
      have HQ := Lib.hid (And.intro hq (And.intro harr (And.intro hqn (And.intro hql htk))))
      clear hq harr hqn hql htk hn htn
      go_wp2_with fail
      refine HP.out.mono ?_
      rintro e w2 ⟨h2, rfl, hn2, hb2, hcl2⟩
      have HC2 := Lib.hid (HC.out.call hb2 hcl2)
      have hrow2 := (hb2.block w.heap.size hrlt).trans HROWK.out
      obtain ⟨v0, hv0⟩ := some_at0 (i := k * 5) hsz (by omega)
      obtain ⟨v1, hv1⟩ := some_at0 (i := k * 5 + 1) hsz (by omega)
      obtain ⟨v2, hv2⟩ := some_at0 (i := k * 5 + 2) hsz (by omega)
      obtain ⟨v3, hv3⟩ := some_at0 (i := k * 5 + 3) hsz (by omega)
      obtain ⟨v4, hv4⟩ := some_at0 (i := k * 5 + 4) hsz (by omega)
      have hadd : x.add (k * 5) = ⟨w.heap.size, k * 5, none⟩ := by rw [HX.out, add_zero0]
      have p0 : w2.cell? ⟨w.heap.size, k * 5, none⟩ = some v0 := by rw [cell_of_row _ _ _ _ _ _ hrow2]; exact hv0
      have p1 : w2.cell? ⟨w.heap.size, k * 5 + 1, none⟩ = some v1 := by rw [cell_of_row _ _ _ _ _ _ hrow2]; exact hv1
      have p2 : w2.cell? ⟨w.heap.size, k * 5 + 2, none⟩ = some v2 := by rw [cell_of_row _ _ _ _ _ _ hrow2]; exact hv2
      have p3 : w2.cell? ⟨w.heap.size, k * 5 + 3, none⟩ = some v3 := by rw [cell_of_row _ _ _ _ _ _ hrow2]; exact hv3
      have p4 : w2.cell? ⟨w.heap.size, k * 5 + 4, none⟩ = some v4 := by rw [cell_of_row _ _ _ _ _ _ hrow2]; exact hv4
      have z0 := row_free hrow2
      have HR2 := Lib.hid hrow2
      have HB2 := Lib.hid (HB.out.trans (hb2.mono HB.out.size))
      have HN2 := Lib.hid (hn2.from_ (B' := w.heap.size + 1) (by omega))
      have HQ2 : Hid (∀ r ∈ q, DtAt w2 (From (w.heap.size + 1)) m r.1 r.2) := Lib.hid fun r hr => (HQ.out.2.2.1 r hr).below hb2
      clear hcl2 hrow hsz hrow2 hb2 hv0 hv1 hv2 hv3 hv4 hn2
      go_wp2
      go_roundw
      case rel =>
        refine ⟨k + 1, by go_num, by omega, Lib.hid ⟨_, q ++ [(n, h2)], row_setN (row_setN (row_setN (row_setN (row_setN HR2.out (k * 5) _) (k * 5 + 1) _) (k * 5 + 2) _) (k * 5 + 3) _) (k * 5 + 4) _, by simp [HSZ.out], ?_, ?_, ?_⟩, Lib.hid ?_, Lib.hid (((((HC2.out.setCell _ _).setCell _ _).setCell _ _).setCell _ _).setCell _ _)⟩
        · rw [List.map_append, HQ.out.1, HQ.out.2.2.2.2]; rfl
        · have := darr_step HQ.out.2.1 HSZ.out (by rw [HQ.out.2.2.2.1]; omega) (n, h2)
          rw [HQ.out.2.2.2.1] at this
          exact this
        · have hu := ((((((Upon.refl (w.heap.size + 1) w2).setCell (p := ⟨w.heap.size, k * 5, none⟩) (by simp) (.int .i64 n.kind)).setCell (p := ⟨w.heap.size, k * 5 + 1, none⟩) (by simp) (.int .i64 n.num)).setCell (p := ⟨w.heap.size, k * 5 + 2, none⟩) (by simp) (.string n.text)).setCell (p := ⟨w.heap.size, k * 5 + 3, none⟩) (by simp) (.slice h2.A n.list.length h2.a)).setCell (p := ⟨w.heap.size, k * 5 + 4, none⟩) (by simp) (.slice h2.B n.names.length h2.b))
          intro r hr
          rcases List.mem_append.1 hr with hr | hr
          · exact (HQ2.out r hr).upon hu
          · obtain rfl := List.mem_singleton.1 hr
            exact HN2.out.upon hu
        · exact ((((HB2.out.setCell (p := ⟨w.heap.size, k * 5, none⟩) (Nat.le_refl _) _).setCell (p := ⟨w.heap.size, k * 5 + 1, none⟩) (Nat.le_refl _) _).setCell (p := ⟨w.heap.size, k * 5 + 2, none⟩) (Nat.le_refl _) _).setCell (p := ⟨w.heap.size, k * 5 + 3, none⟩) (Nat.le_refl _) _).setCell (p := ⟨w.heap.size, k * 5 + 4, none⟩) (Nat.le_refl _) _
      case measure => simp [intOf]; omega
    · obtain rfl : k = l.length := by omega
      obtain ⟨arr, q, hrow, hsz, hq, harr, hqn⟩ := HA.out
      rw [List.take_of_length_le (Nat.le_refl _)] at hq
      have HX2 := HX
      have HRES : Hid (DtsAt wr (From w.heap.size) (m + 1) (some ⟨w.heap.size, 0, none⟩) l) := Lib.hid (by
        have := dts_of_row (S := From w.heap.size) (m := m) hrow (Nat.le_refl _) (by have := congrArg List.length hq; simp at this; unfold maxLen; omega) harr (fun r hr => (hqn r hr).from_ (by omega))
        rwa [hq] at this)
      clear hrow hsz hq harr hqn HA
      go_wp2
      go_ret
      rw [HX2.out]
      exact ⟨_, _, rfl, HRES.out, HB.out, HC.out⟩
theorem toDSC_any : ∀ m, ToDSC m
  | 0 => toDSC_zero
  | m + 1 => toDSC_succ m (toDC_of m (toDSC_any m))
theorem toDC_any (m : Nat) : ToDC m := toDC_of m (toDSC_any m)
end Go.Proofs.Ytkimkhgigbejkab
