/- Texts of the proof of the law FnExactCanonPut, side by side: part 1. -/
import Derived.Deep.OwnRows
import Derived.Test.YtbijfkpilncclaaGreatMExactCanonPut00
/- The laws' own copies of nodes. -/
namespace Go.Proofs.YtbijfkpilncclaaGreat
open Go.RowKit
abbrev nodeT : TypeId := 30
abbrev nodesT : TypeId := 28
theorem infoNd : (Tryz.prog.info? nodeT).map (fun i => (i.zero, i.size, i.bytes)) = some (some (.agg #[.int .i64 0, .string ByteArray.empty, .slice none 0 0, .int .i64 0, .int .i64 0, .slice none 0 0]), 6, 88) := by kernel_rfl
theorem row_setN {w : World} {g : Nat} {cs : Array Value} {T : TypeId} (h : w.heap[g]? = some (.cells cs T (0, 0))) (i : Nat) (u : Value) : (w.setCell ⟨g, i, none⟩ u).heap[g]? = some (.cells (cs.setIfInBounds i u) T (0, 0)) := by
  simp [World.setCell, Array.getElem?_modify, h]
theorem add_zero0 (g j : Nat) : (⟨g, 0, none⟩ : Addr).add j = ⟨g, j, none⟩ := by
  unfold Addr.add
  split
  · rename_i h; rw [h]
  · simp
theorem some_at0 {arr : Array Value} {i n : Nat} (hs : arr.size = n) (h : i < n) : ∃ v, arr[i]? = some v := ⟨arr[i]'(by omega), by rw [Array.getElem?_eq_getElem]⟩
/-- six cells are written behind the first k nodes. -/
theorem arr_step {arr : Array Value} {q : List (Nd × Hd)} {N : Nat} (h : ∀ (j : Nat) (u : Value), (rowOf q)[j]? = some u → arr[j]? = some u) (hs : arr.size = N * 6) (hk : q.length < N) (r : Nd × Hd) :
    ∀ (j : Nat) (u : Value), (rowOf (q ++ [r]))[j]? = some u → ((((((arr.setIfInBounds (q.length * 6) (.int .i64 r.1.kind)).setIfInBounds (q.length * 6 + 1) (.string r.1.data)).setIfInBounds (q.length * 6 + 2) (.slice r.2.A r.1.ptrs.length r.2.a)).setIfInBounds (q.length * 6 + 3) (.int .i64 r.1.size)).setIfInBounds (q.length * 6 + 4) (.int .i64 r.1.count)).setIfInBounds (q.length * 6 + 5) (.slice r.2.B r.1.items.length r.2.b))[j]? = some u := by
  intro j u hj
  have hlt : j < (rowOf (q ++ [r])).length := by
    rcases Nat.lt_or_ge j (rowOf (q ++ [r])).length with h' | h'
    · exact h'
    · rw [List.getElem?_eq_none h'] at hj; cases hj
  rw [rowOf_length] at hlt
  simp only [List.length_append, List.length_cons, List.length_nil] at hlt
  by_cases hj2 : j < q.length * 6
  · rw [rowOf_app, List.getElem?_append_left (by rw [rowOf_length]; exact hj2)] at hj
    rw [Array.getElem?_setIfInBounds_ne (by omega), Array.getElem?_setIfInBounds_ne (by omega), Array.getElem?_setIfInBounds_ne (by omega), Array.getElem?_setIfInBounds_ne (by omega), Array.getElem?_setIfInBounds_ne (by omega), Array.getElem?_setIfInBounds_ne (by omega)]
    exact h j u hj
  · obtain ⟨a0, a1, a2, a3, a4, a5⟩ := rowOf_at (q ++ [r]) q.length r (by simp)
    have hcase : j = q.length * 6 ∨ j = q.length * 6 + 1 ∨ j = q.length * 6 + 2 ∨ j = q.length * 6 + 3 ∨ j = q.length * 6 + 4 ∨ j = q.length * 6 + 5 := by omega
    rcases hcase with e | e | e | e | e | e
    · rw [e, a0] at hj
      cases hj
      rw [e, Array.getElem?_setIfInBounds_ne (by omega), Array.getElem?_setIfInBounds_ne (by omega), Array.getElem?_setIfInBounds_ne (by omega), Array.getElem?_setIfInBounds_ne (by omega), Array.getElem?_setIfInBounds_ne (by omega), Array.getElem?_setIfInBounds_self_of_lt (by omega)]
    · rw [e, a1] at hj
      cases hj
      rw [e, Array.getElem?_setIfInBounds_ne (by omega), Array.getElem?_setIfInBounds_ne (by omega), Array.getElem?_setIfInBounds_ne (by omega), Array.getElem?_setIfInBounds_ne (by omega), Array.getElem?_setIfInBounds_self_of_lt (by simp; omega)]
    · rw [e, a2] at hj
      cases hj
      rw [e, Array.getElem?_setIfInBounds_ne (by omega), Array.getElem?_setIfInBounds_ne (by omega), Array.getElem?_setIfInBounds_ne (by omega), Array.getElem?_setIfInBounds_self_of_lt (by simp; omega)]
    · rw [e, a3] at hj
      cases hj
      rw [e, Array.getElem?_setIfInBounds_ne (by omega), Array.getElem?_setIfInBounds_ne (by omega), Array.getElem?_setIfInBounds_self_of_lt (by simp; omega)]
    · rw [e, a4] at hj
      cases hj
      rw [e, Array.getElem?_setIfInBounds_ne (by omega), Array.getElem?_setIfInBounds_self_of_lt (by simp; omega)]
    · rw [e, a5] at hj
      cases hj
      rw [e, Array.getElem?_setIfInBounds_self_of_lt (by simp; omega)]
/-- a node of new memory is handed back. -/
def NewN (m : Nat) (n : Nd) (w : World) (e : Ending) (w' : World) : Prop := ∃ h : Hd, e = .returned (.agg #[.int .i64 n.kind, .string n.data, .slice h.A n.ptrs.length h.a, .int .i64 n.size, .int .i64 n.count, .slice h.B n.items.length h.b]) ∧ NdAt w' (From w.heap.size) m n h ∧ Below w.heap.size w w'
def NewS (m : Nat) (l : List Nd) (w : World) (e : Ending) (w' : World) : Prop := ∃ (A : Option Addr) (c : Nat), e = .returned (.slice A l.length c) ∧ NdsAt w' (From w.heap.size) m A l ∧ Below w.heap.size w w'
def ToS (m : Nat) : Prop := ∀ (A : Option Addr) (c : Nat) (l : List Nd) (w : World) (S : Nat → Prop), NdsAt w S m A l → totL m l ≤ 2000000 →
  Calls Tryz.prog 26 #[.slice A l.length c] w (NewS m l w)
def ToN (m : Nat) : Prop := ∀ (n : Nd) (h : Hd) (w : World) (S : Nat → Prop), NdAt w S m n h → totN m n ≤ 2000000 →
  Calls Tryz.prog 9 #[.agg #[.int .i64 n.kind, .string n.data, .slice h.A n.ptrs.length h.a, .int .i64 n.size, .int .i64 n.count, .slice h.B n.items.length h.b]] w (NewN m n w)
theorem row_set6 {w : World} {g i : Nat} {v0 v1 v2 v3 v4 v5 : Value} {T : TypeId} (h : w.heap[g]? = some (.cells #[v0, v1, v2, v3, v4, v5] T (0, 0))) (u : Value) : (w.setCell ⟨g, i, none⟩ u).heap[g]? = some (.cells (#[v0, v1, v2, v3, v4, v5].setIfInBounds i u) T (0, 0)) := row_setN h i u
/-- what stands from block B on stays. -/
structure Upon (B : Nat) (w w' : World) : Prop where
  size : w.heap.size ≤ w'.heap.size
  block : ∀ k, B ≤ k → k < w.heap.size → w'.heap[k]? = w.heap[k]?
theorem Upon.refl (B : Nat) (w : World) : Upon B w w := ⟨Nat.le_refl _, fun _ _ _ => rfl⟩
theorem Upon.setCell {B : Nat} {a w : World} (h : Upon B a w) {p : Addr} (hp : p.block < B) (u : Value) : Upon B a (w.setCell p u) :=
  ⟨by simpa [World.setCell] using h.size, fun k hk hl => (Below.heap_setCell w p u k (by omega)).trans (h.block k hk hl)⟩
theorem Upon.alloc {B : Nat} {a w : World} (h : Upon B a w) (o : Obj) : Upon B a (w.alloc o) :=
  ⟨by have := h.size; simp; omega, fun k hk hl => (Below.heap_alloc w o k (by have := h.size; omega)).trans (h.block k hk hl)⟩
theorem Upon.below {B : Nat} {a w w' : World} (h : Upon B a w) (hb : Below w.heap.size w w') : Upon B a w' :=
  ⟨Nat.le_trans h.size hb.size, fun k hk hl => (hb.block k (by have := h.size; omega)).trans (h.block k hk hl)⟩
theorem NdsAt.upon {w w' : World} {B m : Nat} {A : Option Addr} {l : List Nd} (h : NdsAt w (From B) m A l) (hu : Upon B w w') : NdsAt w' (From B) m A l :=
  NdsAt.map (fun _ h => h) (fun _p _ _ hs hc => hc.block (hu.block _ hs hc.lt)) _ _ _ h
theorem NdAt.upon {w w' : World} {B m : Nat} {n : Nd} {h : Hd} (hn : NdAt w (From B) m n h) (hu : Upon B w w') : NdAt w' (From B) m n h := ⟨hn.1, hn.2.1.upon hu, hn.2.2.upon hu⟩
theorem NdsAt.from_ {w : World} {B B' m : Nat} {A : Option Addr} {l : List Nd} (h : NdsAt w (From B) m A l) (hB : B' ≤ B) : NdsAt w (From B') m A l := h.weak (fun _ hk => Nat.le_trans hB hk)
theorem NdAt.from_ {w : World} {B B' m : Nat} {n : Nd} {h : Hd} (hn : NdAt w (From B) m n h) (hB : B' ≤ B) : NdAt w (From B') m n h := hn.weak (fun _ hk => Nat.le_trans hB hk)
set_option maxHeartbeats 4000000 in
set_option maxRecDepth 100000 in
theorem toN_of (m : Nat) (hS : ToS m) : ToN m := by
  intro n h w S hn ht
  have HS := Lib.hid hS
  have HN := Lib.hid hn
  have HT : Hid (totN m n ≤ 2000000) := Lib.hid ht
  have HT1 : Hid (totL m n.ptrs ≤ 2000000) := Lib.hid (by unfold totN at ht; omega)
  have HT2 : Hid (totL m n.items ≤ 2000000) := Lib.hid (by unfold totN at ht; omega)
  clear hS hn ht
  go_enter Tryz.func9, Tryz.ntmps9
  go_wp2_with fail
  have hb0 : Below w.heap.size w (((w.alloc (.cells #[.int .i64 n.kind, .string n.data, .slice h.A n.ptrs.length h.a, .int .i64 n.size, .int .i64 n.count, .slice h.B n.items.length h.b] 24)).alloc (.cells #[.int .i64 0, .string { data := #[] }, .slice none 0 0, .int .i64 0, .int .i64 0, .slice none 0 0] nodeT)).alloc (.cells #[.int .i64 n.kind, .string n.data, .slice none 0 0, .int .i64 0, .int .i64 0, .slice none 0 0] nodeT)) := (((Below.refl _ w).alloc (Nat.le_refl _) _).alloc (by simp) _).alloc (by simp; omega) _
  have k0 : (((w.alloc (.cells #[.int .i64 n.kind, .string n.data, .slice h.A n.ptrs.length h.a, .int .i64 n.size, .int .i64 n.count, .slice h.B n.items.length h.b] 24)).alloc (.cells #[.int .i64 0, .string { data := #[] }, .slice none 0 0, .int .i64 0, .int .i64 0, .slice none 0 0] nodeT)).alloc (.cells #[.int .i64 n.kind, .string n.data, .slice none 0 0, .int .i64 0, .int .i64 0, .slice none 0 0] nodeT)).heap[w.heap.size]? = some (.cells #[.int .i64 n.kind, .string n.data, .slice h.A n.ptrs.length h.a, .int .i64 n.size, .int .i64 n.count, .slice h.B n.items.length h.b] 24 (0, 0)) := (Below.heap_alloc _ _ _ (by simp; omega)).trans ((Below.heap_alloc _ _ _ (by simp)).trans (heap_alloc_new w _))
  have k1 : (((w.alloc (.cells #[.int .i64 n.kind, .string n.data, .slice h.A n.ptrs.length h.a, .int .i64 n.size, .int .i64 n.count, .slice h.B n.items.length h.b] 24)).alloc (.cells #[.int .i64 0, .string { data := #[] }, .slice none 0 0, .int .i64 0, .int .i64 0, .slice none 0 0] nodeT)).alloc (.cells #[.int .i64 n.kind, .string n.data, .slice none 0 0, .int .i64 0, .int .i64 0, .slice none 0 0] nodeT)).heap[w.heap.size + 1]? = some (.cells #[.int .i64 0, .string { data := #[] }, .slice none 0 0, .int .i64 0, .int .i64 0, .slice none 0 0] nodeT (0, 0)) := (Below.heap_alloc _ _ _ (by simp)).trans (by have := heap_alloc_new (w.alloc (.cells #[.int .i64 n.kind, .string n.data, .slice h.A n.ptrs.length h.a, .int .i64 n.size, .int .i64 n.count, .slice h.B n.items.length h.b] 24)) (.cells #[.int .i64 0, .string { data := #[] }, .slice none 0 0, .int .i64 0, .int .i64 0, .slice none 0 0] nodeT); rwa [show (w.alloc (.cells #[.int .i64 n.kind, .string n.data, .slice h.A n.ptrs.length h.a, .int .i64 n.size, .int .i64 n.count, .slice h.B n.items.length h.b] 24)).heap.size = w.heap.size + 1 by simp] at this)
  have k2 : (((w.alloc (.cells #[.int .i64 n.kind, .string n.data, .slice h.A n.ptrs.length h.a, .int .i64 n.size, .int .i64 n.count, .slice h.B n.items.length h.b] 24)).alloc (.cells #[.int .i64 0, .string { data := #[] }, .slice none 0 0, .int .i64 0, .int .i64 0, .slice none 0 0] nodeT)).alloc (.cells #[.int .i64 n.kind, .string n.data, .slice none 0 0, .int .i64 0, .int .i64 0, .slice none 0 0] nodeT)).heap[w.heap.size + 1 + 1]? = some (.cells #[.int .i64 n.kind, .string n.data, .slice none 0 0, .int .i64 0, .int .i64 0, .slice none 0 0] nodeT (0, 0)) := by have := heap_alloc_new ((w.alloc (.cells #[.int .i64 n.kind, .string n.data, .slice h.A n.ptrs.length h.a, .int .i64 n.size, .int .i64 n.count, .slice h.B n.items.length h.b] 24)).alloc (.cells #[.int .i64 0, .string { data := #[] }, .slice none 0 0, .int .i64 0, .int .i64 0, .slice none 0 0] nodeT)) (.cells #[.int .i64 n.kind, .string n.data, .slice none 0 0, .int .i64 0, .int .i64 0, .slice none 0 0] nodeT); rwa [show ((w.alloc (.cells #[.int .i64 n.kind, .string n.data, .slice h.A n.ptrs.length h.a, .int .i64 n.size, .int .i64 n.count, .slice h.B n.items.length h.b] 24)).alloc (.cells #[.int .i64 0, .string { data := #[] }, .slice none 0 0, .int .i64 0, .int .i64 0, .slice none 0 0] nodeT)).heap.size = w.heap.size + 1 + 1 by simp] at this
  have hs3 : (((w.alloc (.cells #[.int .i64 n.kind, .string n.data, .slice h.A n.ptrs.length h.a, .int .i64 n.size, .int .i64 n.count, .slice h.B n.items.length h.b] 24)).alloc (.cells #[.int .i64 0, .string { data := #[] }, .slice none 0 0, .int .i64 0, .int .i64 0, .slice none 0 0] nodeT)).alloc (.cells #[.int .i64 n.kind, .string n.data, .slice none 0 0, .int .i64 0, .int .i64 0, .slice none 0 0] nodeT)).heap.size = w.heap.size + 3 := by simp
  generalize (((w.alloc (.cells #[.int .i64 n.kind, .string n.data, .slice h.A n.ptrs.length h.a, .int .i64 n.size, .int .i64 n.count, .slice h.B n.items.length h.b] 24)).alloc (.cells #[.int .i64 0, .string { data := #[] }, .slice none 0 0, .int .i64 0, .int .i64 0, .slice none 0 0] nodeT)).alloc (.cells #[.int .i64 n.kind, .string n.data, .slice none 0 0, .int .i64 0, .int .i64 0, .slice none 0 0] nodeT)) = W3 at *
  refine (HS.out h.A h.a n.ptrs W3 S (HN.out.below hb0).2.1 HT1.out).mono ?_
  rintro e w1 ⟨A1, c1, rfl, hn1, hb1⟩
  have HN1 := Lib.hid hn1
  have k0' := (hb1.block _ (by omega)).trans k0
  have k1' := (hb1.block _ (by omega)).trans k1
  have k2' := (hb1.block _ (by omega)).trans k2
  have HB1 := Lib.hid (hb0.trans (hb1.mono (by omega)))
  have HS3 := Lib.hid hs3
  have HS1 := Lib.hid hb1.size
  have HK0 := Lib.hid k0'
  have HK1 := Lib.hid k1'
  have HK2 := Lib.hid k2'
  obtain ⟨a0, a1, a2, a3, a4, a5⟩ := cells6 k0'
  obtain ⟨b0, b1, b2, b3, b4, b5⟩ := cells6 k2'
  have f2 := row_free k2'
  clear hn1 hb1 k0 k1 k2 k0' k1' k2' hs3 hb0
  go_wp2_with fail
  have hu5 : Upon (w.heap.size + 3) w1 (((w1.setCell ⟨w.heap.size + 1 + 1, 2, none⟩ (.slice A1 n.ptrs.length c1)).setCell ⟨w.heap.size + 1 + 1, 3, none⟩ (.int .i64 n.size)).setCell ⟨w.heap.size + 1 + 1, 4, none⟩ (.int .i64 n.count)) := (((Upon.refl _ w1).setCell (p := ⟨w.heap.size + 1 + 1, 2, none⟩) (by simp) _).setCell (p := ⟨w.heap.size + 1 + 1, 3, none⟩) (by simp) _).setCell (p := ⟨w.heap.size + 1 + 1, 4, none⟩) (by simp) _
  have hb5 : Below w.heap.size w (((w1.setCell ⟨w.heap.size + 1 + 1, 2, none⟩ (.slice A1 n.ptrs.length c1)).setCell ⟨w.heap.size + 1 + 1, 3, none⟩ (.int .i64 n.size)).setCell ⟨w.heap.size + 1 + 1, 4, none⟩ (.int .i64 n.count)) := ((HB1.out.setCell (p := ⟨w.heap.size + 1 + 1, 2, none⟩) (by simp; omega) _).setCell (p := ⟨w.heap.size + 1 + 1, 3, none⟩) (by simp; omega) _).setCell (p := ⟨w.heap.size + 1 + 1, 4, none⟩) (by simp; omega) _
  have j0 : ((((w1.setCell ⟨w.heap.size + 1 + 1, 2, none⟩ (.slice A1 n.ptrs.length c1)).setCell ⟨w.heap.size + 1 + 1, 3, none⟩ (.int .i64 n.size)).setCell ⟨w.heap.size + 1 + 1, 4, none⟩ (.int .i64 n.count))).heap[w.heap.size]? = some (.cells #[.int .i64 n.kind, .string n.data, .slice h.A n.ptrs.length h.a, .int .i64 n.size, .int .i64 n.count, .slice h.B n.items.length h.b] 24 (0, 0)) := (Below.heap_setCell _ _ _ _ (by simp; omega)).trans ((Below.heap_setCell _ _ _ _ (by simp; omega)).trans ((Below.heap_setCell _ _ _ _ (by simp; omega)).trans HK0.out))
  have j1 : ((((w1.setCell ⟨w.heap.size + 1 + 1, 2, none⟩ (.slice A1 n.ptrs.length c1)).setCell ⟨w.heap.size + 1 + 1, 3, none⟩ (.int .i64 n.size)).setCell ⟨w.heap.size + 1 + 1, 4, none⟩ (.int .i64 n.count))).heap[w.heap.size + 1]? = some (.cells #[.int .i64 0, .string { data := #[] }, .slice none 0 0, .int .i64 0, .int .i64 0, .slice none 0 0] nodeT (0, 0)) := (Below.heap_setCell _ _ _ _ (by simp)).trans ((Below.heap_setCell _ _ _ _ (by simp)).trans ((Below.heap_setCell _ _ _ _ (by simp)).trans HK1.out))
  have j2 : ((((w1.setCell ⟨w.heap.size + 1 + 1, 2, none⟩ (.slice A1 n.ptrs.length c1)).setCell ⟨w.heap.size + 1 + 1, 3, none⟩ (.int .i64 n.size)).setCell ⟨w.heap.size + 1 + 1, 4, none⟩ (.int .i64 n.count))).heap[w.heap.size + 1 + 1]? = some (.cells #[.int .i64 n.kind, .string n.data, .slice A1 n.ptrs.length c1, .int .i64 n.size, .int .i64 n.count, .slice none 0 0] nodeT (0, 0)) := row_setN (row_setN (row_setN HK2.out 2 _) 3 _) 4 _
  have hn5 : NdsAt (((w1.setCell ⟨w.heap.size + 1 + 1, 2, none⟩ (.slice A1 n.ptrs.length c1)).setCell ⟨w.heap.size + 1 + 1, 3, none⟩ (.int .i64 n.size)).setCell ⟨w.heap.size + 1 + 1, 4, none⟩ (.int .i64 n.count)) (From (w.heap.size + 3)) m A1 n.ptrs := (HN1.out.from_ (Nat.le_of_eq HS3.out.symm)).upon hu5
  have hs5 : w.heap.size + 3 ≤ ((((w1.setCell ⟨w.heap.size + 1 + 1, 2, none⟩ (.slice A1 n.ptrs.length c1)).setCell ⟨w.heap.size + 1 + 1, 3, none⟩ (.int .i64 n.size)).setCell ⟨w.heap.size + 1 + 1, 4, none⟩ (.int .i64 n.count))).heap.size := by have := hu5.size; have := HS1.out; have := HS3.out; omega
  generalize (((w1.setCell ⟨w.heap.size + 1 + 1, 2, none⟩ (.slice A1 n.ptrs.length c1)).setCell ⟨w.heap.size + 1 + 1, 3, none⟩ (.int .i64 n.size)).setCell ⟨w.heap.size + 1 + 1, 4, none⟩ (.int .i64 n.count)) = W5 at *
  have HN5 := Lib.hid hn5
  have HS5 := Lib.hid hs5
  clear a0 a1 a2 a3 a4 a5 b0 b1 b2 b3 b4 b5 f2 hu5 HK0 HK1 HK2 HN1
  refine (HS.out h.B h.b n.items W5 S (HN.out.below hb5).2.2 HT2.out).mono ?_
  rintro e w2 ⟨A2, c2, rfl, hn2, hb2⟩
  have HN2 := Lib.hid (hn2.from_ HS5.out)
  have HN1 := Lib.hid (HN5.out.below hb2)
  have HB2 := Lib.hid (hb5.trans (hb2.mono hb5.size))
  have k1 := (hb2.block _ (by omega)).trans j1
  have k2 := (hb2.block _ (by omega)).trans j2
  have hc0 : ∀ u i, (w2.setCell ⟨w.heap.size + 1 + 1, 5, none⟩ u).cell? ⟨w.heap.size + 1, i, none⟩ = (#[.int .i64 0, .string { data := #[] }, .slice none 0 0, .int .i64 0, .int .i64 0, .slice none 0 0] : Array Value)[i]? := fun u i => cell_of_row _ _ _ _ _ _ ((Below.heap_setCell w2 ⟨w.heap.size + 1 + 1, 5, none⟩ u (w.heap.size + 1) (by simp)).trans k1)
  obtain ⟨b0, b1, b2, b3, b4, b5⟩ := cells6 k2
  have f2 := row_free k2
  have hf1 : ∀ u i, (w2.setCell ⟨w.heap.size + 1 + 1, 5, none⟩ u).frozen? ⟨w.heap.size + 1, i, none⟩ = false := fun u i => row_free ((Below.heap_setCell w2 ⟨w.heap.size + 1 + 1, 5, none⟩ u (w.heap.size + 1) (by simp)).trans k1) i
  have HK1 := Lib.hid k1
  have HK2 := Lib.hid k2
  clear k1 k2 j0 j1 j2 hn5 hs5 hb5 hn2 hb2 HN5
  go_wp2_with fail
  have kw := row_setN (row_setN (row_setN (row_setN (row_setN (row_setN ((Below.heap_setCell w2 ⟨w.heap.size + 1 + 1, 5, none⟩ (.slice A2 n.items.length c2) (w.heap.size + 1) (by simp)).trans HK1.out) 0 (.int .i64 n.kind)) 1 (.string n.data)) 2 (.slice A1 n.ptrs.length c1)) 3 (.int .i64 n.size)) 4 (.int .i64 n.count)) 5 (.slice A2 n.items.length c2)
  have hbw := ((((((HB2.out.setCell (p := ⟨w.heap.size + 1 + 1, 5, none⟩) (by simp; omega) (.slice A2 n.items.length c2)).setCell (p := ⟨w.heap.size + 1, 0, none⟩) (by simp) (.int .i64 n.kind)).setCell (p := ⟨w.heap.size + 1, 1, none⟩) (by simp) (.string n.data)).setCell (p := ⟨w.heap.size + 1, 2, none⟩) (by simp) (.slice A1 n.ptrs.length c1)).setCell (p := ⟨w.heap.size + 1, 3, none⟩) (by simp) (.int .i64 n.size)).setCell (p := ⟨w.heap.size + 1, 4, none⟩) (by simp) (.int .i64 n.count)).setCell (p := ⟨w.heap.size + 1, 5, none⟩) (by simp) (.slice A2 n.items.length c2)
  have huw := (((((((Upon.refl (w.heap.size + 3) w2).setCell (p := ⟨w.heap.size + 1 + 1, 5, none⟩) (by simp) (.slice A2 n.items.length c2)).setCell (p := ⟨w.heap.size + 1, 0, none⟩) (by simp) (.int .i64 n.kind)).setCell (p := ⟨w.heap.size + 1, 1, none⟩) (by simp) (.string n.data)).setCell (p := ⟨w.heap.size + 1, 2, none⟩) (by simp) (.slice A1 n.ptrs.length c1)).setCell (p := ⟨w.heap.size + 1, 3, none⟩) (by simp) (.int .i64 n.size)).setCell (p := ⟨w.heap.size + 1, 4, none⟩) (by simp) (.int .i64 n.count)).setCell (p := ⟨w.heap.size + 1, 5, none⟩) (by simp) (.slice A2 n.items.length c2)
  generalize (((((((w2.setCell ⟨w.heap.size + 1 + 1, 5, none⟩ (.slice A2 n.items.length c2)).setCell ⟨w.heap.size + 1, 0, none⟩ (.int .i64 n.kind)).setCell ⟨w.heap.size + 1, 1, none⟩ (.string n.data)).setCell ⟨w.heap.size + 1, 2, none⟩ (.slice A1 n.ptrs.length c1)).setCell ⟨w.heap.size + 1, 3, none⟩ (.int .i64 n.size)).setCell ⟨w.heap.size + 1, 4, none⟩ (.int .i64 n.count)).setCell ⟨w.heap.size + 1, 5, none⟩ (.slice A2 n.items.length c2)) = W at *
  obtain ⟨e0, e1, e2, e3, e4, e5⟩ := cells6 kw
  exact bodyPost_ret (v := .agg #[.int .i64 n.kind, .string n.data, .slice A1 n.ptrs.length c1, .int .i64 n.size, .int .i64 n.count, .slice A2 n.items.length c2])
    (by simp [results, Tryz.results9, go_sem, e0, e1, e2, e3, e4, e5]) rfl ⟨⟨A1, c1, A2, c2⟩, rfl, ⟨HN.out.1, (HN1.out.upon huw).from_ (by omega), (HN2.out.upon huw).from_ (by omega)⟩, hbw⟩
theorem toS_zero : ToS 0 := by
  intro A c l w S hl ht
  obtain rfl := hl.zero
  obtain ⟨i0, hi, hz0, hz1, hz2⟩ := info_parts infoNd
  have hmk : ∀ w : World, (Instr.makeSlice nodesT (.int .i64 0) (.int .i64 0)).run Tryz.prog w = .ok (.slice (some ⟨w.heap.size, 0, none⟩) 0 0) (w.alloc (.cells (madeCells #[.int .i64 0, .string ByteArray.empty, .slice none 0 0, .int .i64 0, .int .i64 0, .slice none 0 0] 0) nodeT)) := fun w => by
    have := run_make (P := Tryz.prog) w nodesT nodeT i0 _ Tryz.underlying28 hi hz0 .i64 .i64 0 0 (by omega) (Int.le_refl _) (by rw [hz2]; omega) (by omega)
    rw [hz1] at this
    exact this
  clear ht
  go_enter Tryz.func26, Tryz.ntmps26
  go_wp2
  go_loopw [4] (fun i wr => i = .int .i64 0 ∧ Hid (Below w.heap.size w wr)) (fun _ _ => 0)
  case atStart => exact ⟨rfl, Lib.hid ((Below.refl _ _).alloc (Nat.le_refl _) _)⟩
  case round =>
    obtain ⟨rfl, HB⟩ := hrel
    go_wp2
    go_ret
    exact ⟨_, _, rfl, rfl, HB.out⟩
set_option maxHeartbeats 4000000 in
set_option maxRecDepth 100000 in
theorem toS_succ (m : Nat) (hN : ToN m) : ToS (m + 1) := by
  intro A c l w S hl ht
  have hlm : l.length ≤ 2000000 := Nat.le_trans (totL_len m l) ht
  obtain ⟨i0, hi, hz0, hz1, hz2⟩ := info_parts infoNd
  have hmk : ∀ w : World, (Instr.makeSlice nodesT (.int .i64 (l.length : Int)) (.int .i64 (l.length : Int))).run Tryz.prog w = .ok (.slice (some ⟨w.heap.size, 0, none⟩) l.length l.length) (w.alloc (.cells (madeCells #[.int .i64 0, .string ByteArray.empty, .slice none 0 0, .int .i64 0, .int .i64 0, .slice none 0 0] (l.length * 6)) nodeT)) := fun w => by
    have := run_make (P := Tryz.prog) w nodesT nodeT i0 _ Tryz.underlying28 hi hz0 .i64 .i64 (l.length : Int) (l.length : Int) (by omega) (Int.le_refl _) (by rw [hz2]; omega) (by omega)
    rw [hz1] at this
    simp only [Int.toNat_natCast] at this
    exact this
  have HF := Lib.hid hl
  have HN := Lib.hid hN
  have HT : Hid (∀ k (h : k < l.length), totN m l[k] ≤ 2000000) := Lib.hid fun k h => by have := totL_at (m := m) h; omega
  clear hl hN ht
  go_enter Tryz.func26, Tryz.ntmps26
  go_wp2
  have HROW := Lib.hid (heap_alloc_new w (.cells (madeCells #[.int .i64 0, .string ByteArray.empty, .slice none 0 0, .int .i64 0, .int .i64 0, .slice none 0 0] (l.length * 6)) nodeT))
  obtain ⟨x, hx⟩ : ∃ x : Addr, x = ⟨w.heap.size, 0, none⟩ := ⟨_, rfl⟩
  rw [← hx]
  have HX := Lib.hid hx
  clear hx hmk
  go_loopw [4] (fun i wr => ∃ k : Nat, i = .int .i64 k ∧ k ≤ l.length ∧ Hid (∃ (arr : Array Value) (q : List (Nd × Hd)), wr.heap[w.heap.size]? = some (.cells arr nodeT (0, 0)) ∧ arr.size = l.length * 6 ∧ q.map (·.1) = l.take k ∧ (∀ (j : Nat) (u : Value), (rowOf q)[j]? = some u → arr[j]? = some u) ∧ ∀ r ∈ q, NdAt wr (From (w.heap.size + 1)) m r.1 r.2) ∧ Hid (Below w.heap.size w wr)) (fun i _ => l.length - (intOf i).toNat)
  case atStart => exact ⟨0, rfl, by omega, Lib.hid ⟨_, [], HROW.out, by rw [size_madeCells], rfl, fun j u h => by simp [rowOf] at h, fun r h => by cases h⟩, Lib.hid ((Below.refl _ _).alloc (Nat.le_refl _) _)⟩
  case round =>
    obtain ⟨k, rfl, hk, HA, HB⟩ := hrel
    by_cases hlt : k < l.length
    · obtain ⟨y, hd, rfl, hc, hn⟩ := (HF.out.below HB.out).at_ hlt
      obtain ⟨arr, q, hrow, hsz, hq, harr, hqn⟩ := HA.out
      have hql : q.length = k := by have := congrArg List.length hq; simp at this; omega
      have htk : l.take (k + 1) = l.take k ++ [l[k]] := List.take_succ_eq_append_getElem hlt
      have htn := HT.out k hlt
      generalize l[k] = n at hc hn htk htn
      obtain ⟨d0, d1, d2, d3, d4, d5⟩ := hc
      have hrlt := row_lt hrow
      have HP := Lib.hid (HN.out n hd wr S hn htn)
      have HROWK := Lib.hid hrow
      have HSZ := Lib.hid hsz
      have HQ := Lib.hid (And.intro hq (And.intro harr (And.intro hqn (And.intro hql htk))))
      clear hq harr hqn hql htk hn htn
      go_wp2_with fail
      refine HP.out.mono ?_
      rintro e w2 ⟨h2, rfl, hn2, hb2⟩
      have hrow2 := (hb2.block w.heap.size hrlt).trans HROWK.out
      obtain ⟨v0, hv0⟩ := some_at0 (i := k * 6) hsz (by omega)
      obtain ⟨v1, hv1⟩ := some_at0 (i := k * 6 + 1) hsz (by omega)
      obtain ⟨v2, hv2⟩ := some_at0 (i := k * 6 + 2) hsz (by omega)
      obtain ⟨v3, hv3⟩ := some_at0 (i := k * 6 + 3) hsz (by omega)
      obtain ⟨v4, hv4⟩ := some_at0 (i := k * 6 + 4) hsz (by omega)
      obtain ⟨v5, hv5⟩ := some_at0 (i := k * 6 + 5) hsz (by omega)
      have hadd : x.add (k * 6) = ⟨w.heap.size, k * 6, none⟩ := by rw [HX.out, add_zero0]
      have p0 : w2.cell? ⟨w.heap.size, k * 6, none⟩ = some v0 := by rw [cell_of_row _ _ _ _ _ _ hrow2]; exact hv0
      have p1 : w2.cell? ⟨w.heap.size, k * 6 + 1, none⟩ = some v1 := by rw [cell_of_row _ _ _ _ _ _ hrow2]; exact hv1
      have p2 : w2.cell? ⟨w.heap.size, k * 6 + 2, none⟩ = some v2 := by rw [cell_of_row _ _ _ _ _ _ hrow2]; exact hv2
      have p3 : w2.cell? ⟨w.heap.size, k * 6 + 3, none⟩ = some v3 := by rw [cell_of_row _ _ _ _ _ _ hrow2]; exact hv3
      have p4 : w2.cell? ⟨w.heap.size, k * 6 + 4, none⟩ = some v4 := by rw [cell_of_row _ _ _ _ _ _ hrow2]; exact hv4
      have p5 : w2.cell? ⟨w.heap.size, k * 6 + 5, none⟩ = some v5 := by rw [cell_of_row _ _ _ _ _ _ hrow2]; exact hv5
      have z0 := row_free hrow2
      have HR2 := Lib.hid hrow2
      have HB2 := Lib.hid (HB.out.trans (hb2.mono HB.out.size))
      have HN2 := Lib.hid (hn2.from_ (B' := w.heap.size + 1) (by omega))
      have HQ2 : Hid (∀ r ∈ q, NdAt w2 (From (w.heap.size + 1)) m r.1 r.2) := Lib.hid fun r hr => (HQ.out.2.2.1 r hr).below hb2
      clear hrow hsz hrow2 hb2 hv0 hv1 hv2 hv3 hv4 hv5 hn2
      go_wp2
      go_roundw
      case rel =>
        refine ⟨k + 1, by go_num, by omega, Lib.hid ⟨_, q ++ [(n, h2)], row_setN (row_setN (row_setN (row_setN (row_setN (row_setN HR2.out (k * 6) _) (k * 6 + 1) _) (k * 6 + 2) _) (k * 6 + 3) _) (k * 6 + 4) _) (k * 6 + 5) _, by simp [HSZ.out], ?_, ?_, ?_⟩, Lib.hid ?_⟩
        · rw [List.map_append, HQ.out.1, HQ.out.2.2.2.2]; rfl
        · have := arr_step HQ.out.2.1 HSZ.out (by rw [HQ.out.2.2.2.1]; omega) (n, h2)
          rw [HQ.out.2.2.2.1] at this
          exact this
        · have hu := (((((((Upon.refl (w.heap.size + 1) w2).setCell (p := ⟨w.heap.size, k * 6, none⟩) (by simp) (.int .i64 n.kind)).setCell (p := ⟨w.heap.size, k * 6 + 1, none⟩) (by simp) (.string n.data)).setCell (p := ⟨w.heap.size, k * 6 + 2, none⟩) (by simp) (.slice h2.A n.ptrs.length h2.a)).setCell (p := ⟨w.heap.size, k * 6 + 3, none⟩) (by simp) (.int .i64 n.size)).setCell (p := ⟨w.heap.size, k * 6 + 4, none⟩) (by simp) (.int .i64 n.count)).setCell (p := ⟨w.heap.size, k * 6 + 5, none⟩) (by simp) (.slice h2.B n.items.length h2.b))
          intro r hr
          rcases List.mem_append.1 hr with hr | hr
          · exact (HQ2.out r hr).upon hu
          · obtain rfl := List.mem_singleton.1 hr
            exact HN2.out.upon hu
        · exact (((((HB2.out.setCell (p := ⟨w.heap.size, k * 6, none⟩) (Nat.le_refl _) _).setCell (p := ⟨w.heap.size, k * 6 + 1, none⟩) (Nat.le_refl _) _).setCell (p := ⟨w.heap.size, k * 6 + 2, none⟩) (Nat.le_refl _) _).setCell (p := ⟨w.heap.size, k * 6 + 3, none⟩) (Nat.le_refl _) _).setCell (p := ⟨w.heap.size, k * 6 + 4, none⟩) (Nat.le_refl _) _).setCell (p := ⟨w.heap.size, k * 6 + 5, none⟩) (Nat.le_refl _) _
      case measure => simp [intOf]; omega
    · obtain rfl : k = l.length := by omega
      obtain ⟨arr, q, hrow, hsz, hq, harr, hqn⟩ := HA.out
      rw [List.take_of_length_le (Nat.le_refl _)] at hq
      have HX2 := HX
      have HRES : Hid (NdsAt wr (From w.heap.size) (m + 1) (some ⟨w.heap.size, 0, none⟩) l) := Lib.hid (by
        have := nds_of_row (S := From w.heap.size) (m := m) hrow (Nat.le_refl _) (by have := congrArg List.length hq; simp at this; unfold maxLen; omega) harr (fun r hr => (hqn r hr).from_ (by omega))
        rwa [hq] at this)
      clear hrow hsz hq harr hqn HA
      go_wp2
      go_ret
      rw [HX2.out]
      exact ⟨_, _, rfl, HRES.out, HB.out⟩
theorem toS_any : ∀ m, ToS m
  | 0 => toS_zero
  | m + 1 => toS_succ m (toN_of m (toS_any m))
theorem toN_any (m : Nat) : ToN m := toN_of m (toS_any m)
end Go.Proofs.YtbijfkpilncclaaGreat

/- The laws' own equality of nodes: a node is equal to its like. -/
namespace Go.Proofs.YtbijfkpilncclaaGreat
open Go.RowKit
def EqS (m : Nat) : Prop := ∀ (A B : Option Addr) (c c' : Nat) (l : List Nd) (w : World) (S S' : Nat → Prop), NdsAt w S m A l → NdsAt w S' m B l → l.length ≤ 2000000 → totL m l ≤ 2000000 →
  Calls Tryz.prog 29 #[.slice A l.length c, .slice B l.length c'] w fun e w' => e = .returned (.bool true) ∧ Below w.heap.size w w'
def EqN (m : Nat) : Prop := ∀ (n : Nd) (h h' : Hd) (w : World) (S S' : Nat → Prop), NdAt w S m n h → NdAt w S' m n h' → totN m n ≤ 2000000 →
  Calls Tryz.prog 11 #[.agg #[.int .i64 n.kind, .string n.data, .slice h.A n.ptrs.length h.a, .int .i64 n.size, .int .i64 n.count, .slice h.B n.items.length h.b], .agg #[.int .i64 n.kind, .string n.data, .slice h'.A n.ptrs.length h'.a, .int .i64 n.size, .int .i64 n.count, .slice h'.B n.items.length h'.b]] w fun e w' => e = .returned (.bool true) ∧ Below w.heap.size w w'
theorem totL_len' {w : World} {S : Nat → Prop} {m : Nat} {A : Option Addr} {l : List Nd} (h : NdsAt w S m A l) (ht : totL m l ≤ 2000000) : l.length ≤ 2000000 := by
  cases m with
  | zero => rw [h.zero]; decide
  | succ m => exact Nat.le_trans (totL_len m l) ht
set_option maxHeartbeats 4000000 in
set_option maxRecDepth 100000 in
theorem eqN_of (m : Nat) (hS : EqS m) : EqN m := by
  intro n h h' w S S' hn hn' ht
  have HS := Lib.hid hS
  have hba : Below w.heap.size w ((w.alloc (.cells #[.int .i64 n.kind, .string n.data, .slice h.A n.ptrs.length h.a, .int .i64 n.size, .int .i64 n.count, .slice h.B n.items.length h.b] nodeT)).alloc (.cells #[.int .i64 n.kind, .string n.data, .slice h'.A n.ptrs.length h'.a, .int .i64 n.size, .int .i64 n.count, .slice h'.B n.items.length h'.b] nodeT)) := ((Below.refl _ _).alloc (Nat.le_refl _) _).alloc (by simp) _
  have k1 : ((w.alloc (.cells #[.int .i64 n.kind, .string n.data, .slice h.A n.ptrs.length h.a, .int .i64 n.size, .int .i64 n.count, .slice h.B n.items.length h.b] nodeT)).alloc (.cells #[.int .i64 n.kind, .string n.data, .slice h'.A n.ptrs.length h'.a, .int .i64 n.size, .int .i64 n.count, .slice h'.B n.items.length h'.b] nodeT)).heap[w.heap.size]? = some (.cells #[.int .i64 n.kind, .string n.data, .slice h.A n.ptrs.length h.a, .int .i64 n.size, .int .i64 n.count, .slice h.B n.items.length h.b] nodeT (0, 0)) := (Below.heap_alloc _ _ _ (by simp)).trans (heap_alloc_new w _)
  have k2 : ((w.alloc (.cells #[.int .i64 n.kind, .string n.data, .slice h.A n.ptrs.length h.a, .int .i64 n.size, .int .i64 n.count, .slice h.B n.items.length h.b] nodeT)).alloc (.cells #[.int .i64 n.kind, .string n.data, .slice h'.A n.ptrs.length h'.a, .int .i64 n.size, .int .i64 n.count, .slice h'.B n.items.length h'.b] nodeT)).heap[w.heap.size + 1]? = some (.cells #[.int .i64 n.kind, .string n.data, .slice h'.A n.ptrs.length h'.a, .int .i64 n.size, .int .i64 n.count, .slice h'.B n.items.length h'.b] nodeT (0, 0)) := by have := heap_alloc_new (w.alloc (.cells #[.int .i64 n.kind, .string n.data, .slice h.A n.ptrs.length h.a, .int .i64 n.size, .int .i64 n.count, .slice h.B n.items.length h.b] nodeT)) (.cells #[.int .i64 n.kind, .string n.data, .slice h'.A n.ptrs.length h'.a, .int .i64 n.size, .int .i64 n.count, .slice h'.B n.items.length h'.b] nodeT); rwa [show (w.alloc (.cells #[.int .i64 n.kind, .string n.data, .slice h.A n.ptrs.length h.a, .int .i64 n.size, .int .i64 n.count, .slice h.B n.items.length h.b] nodeT)).heap.size = w.heap.size + 1 by simp] at this
  have HN := Lib.hid (hn.below hba)
  have HN' := Lib.hid (hn'.below hba)
  have hts : ((w.alloc (.cells #[.int .i64 n.kind, .string n.data, .slice h.A n.ptrs.length h.a, .int .i64 n.size, .int .i64 n.count, .slice h.B n.items.length h.b] nodeT)).alloc (.cells #[.int .i64 n.kind, .string n.data, .slice h'.A n.ptrs.length h'.a, .int .i64 n.size, .int .i64 n.count, .slice h'.B n.items.length h'.b] nodeT)).heap.size = w.heap.size + 2 := by simp
  have t1 : totL m n.ptrs ≤ 2000000 := by unfold totN at ht; omega
  have t2 : totL m n.items ≤ 2000000 := by unfold totN at ht; omega
  have HT := Lib.hid (And.intro (And.intro (totL_len' hn.2.1 t1) t1) (And.intro (totL_len' hn.2.2 t2) t2))
  have HBA := Lib.hid hba
  have HK1 := Lib.hid k1
  have HK2 := Lib.hid k2
  have HTS := Lib.hid hts
  clear hS hn hn' hba t1 t2 ht k1 k2 hts
  go_enter Tryz.func11, Tryz.ntmps11
  go_wp2_with fail
  generalize ((w.alloc (.cells #[.int .i64 n.kind, .string n.data, .slice h.A n.ptrs.length h.a, .int .i64 n.size, .int .i64 n.count, .slice h.B n.items.length h.b] nodeT)).alloc (.cells #[.int .i64 n.kind, .string n.data, .slice h'.A n.ptrs.length h'.a, .int .i64 n.size, .int .i64 n.count, .slice h'.B n.items.length h'.b] nodeT)) = W at *
  refine (HS.out h.A h'.A h.a h'.a n.ptrs W S S' HN.out.2.1 HN'.out.2.1 HT.out.1.1 HT.out.1.2).mono ?_
  rintro e w1 ⟨rfl, hb1⟩
  have HB1 := Lib.hid hb1
  obtain ⟨a0, a1, a2, a3, a4, a5⟩ := cells6 ((hb1.block _ (by have := HTS.out; omega)).trans HK1.out)
  obtain ⟨b0, b1, b2, b3, b4, b5⟩ := cells6 ((hb1.block _ (by have := HTS.out; omega)).trans HK2.out)
  clear hb1
  go_wp2_with fail
  refine (HS.out h.B h'.B h.b h'.b n.items w1 S S' (HN.out.below HB1.out).2.2 (HN'.out.below HB1.out).2.2 HT.out.2.1 HT.out.2.2).mono ?_
  rintro e w2 ⟨rfl, hb2⟩
  have HB2 := Lib.hid (HBA.out.trans ((HB1.out.trans (hb2.mono HB1.out.size)).mono (by have := HTS.out; omega)))
  clear hb2
  go_wp2
  go_ret
  exact ⟨rfl, HB2.out⟩
theorem eqS_zero : EqS 0 := by
  intro A B c c' l w S S' hl hl' h1 h2
  obtain rfl := hl.zero
  clear h1 h2
  go_enter Tryz.func29, Tryz.ntmps29
  go_wp2
  go_loop [5] (fun i => i = .int .i64 0) (fun _ => 0)
  case atStart => rfl
  case round =>
    obtain rfl := hrel
    go_wp2
    go_ret
    exact ⟨rfl, Below.refl _ _⟩
set_option maxHeartbeats 4000000 in
set_option maxRecDepth 100000 in
theorem eqS_succ (m : Nat) (hN : EqN m) : EqS (m + 1) := by
  intro A B c c' l w S S' h h' hlm ht
  have HF := Lib.hid h
  have HG := Lib.hid h'
  have HT : Hid (∀ k (h : k < l.length), totN m l[k] ≤ 2000000) := Lib.hid fun k h => by have := totL_at (m := m) h; omega
  have HN := Lib.hid hN
  clear h h' hN ht
  go_enter Tryz.func29, Tryz.ntmps29
  go_wp2
  go_loopw [5] (fun i wr => ∃ k : Nat, i = .int .i64 k ∧ k ≤ l.length ∧ Hid (Below w.heap.size w wr)) (fun i _ => l.length - (intOf i).toNat)
  case atStart => exact ⟨0, rfl, by omega, Lib.hid (Below.refl _ _)⟩
  case round =>
    obtain ⟨k, rfl, hk, HB⟩ := hrel
    by_cases hlt : k < l.length
    · obtain ⟨x, hx, rfl, cx, nx⟩ := (HF.out.below HB.out).at_ hlt
      obtain ⟨y, hy, rfl, cy, ny⟩ := (HG.out.below HB.out).at_ hlt
      have htn := HT.out k hlt
      generalize l[k] = n at cx nx cy ny htn
      have hd1 : Below wr.heap.size wr wr.drew := ⟨rfl, rfl, rfl, Nat.le_refl _, fun _ _ => rfl⟩
      have HP := Lib.hid (HN.out n hx hy wr.drew S S' (nx.below hd1) (ny.below hd1) htn)
      have hx1 := cx.lt
      have hx2 := cy.lt
      obtain ⟨c0, c1, c2, c3, c4, c5⟩ := cx
      obtain ⟨d0, d1, d2, d3, d4, d5⟩ := cy
      have hk2 : (k : Int) < (l.length : Int) := by omega
      have hs := HB.out.size
      clear nx ny htn
      go_wp2
      go_region_with (go_at_call 11; refine HP.out.mono ?_; rintro e w2 ⟨rfl, hb2⟩)
      all_goals
        have HB2 := Lib.hid (HB.out.trans ((show Below w.heap.size wr wr.drew from ⟨rfl, rfl, rfl, Nat.le_refl _, fun _ _ => rfl⟩).trans (hb2.mono (by simpa using hs))))
        clear hb2
        go_wp2
        go_roundw
        case rel => exact ⟨k + 1, by go_num, by omega, HB2⟩
        case measure => simp [intOf]; omega
    · obtain rfl : k = l.length := by omega
      go_wp2
      go_ret
      exact ⟨rfl, HB.out⟩
theorem eqS_any : ∀ m, EqS m
  | 0 => eqS_zero
  | m + 1 => eqS_succ m (eqN_of m (eqS_any m))
theorem eqN_any (m : Nat) : EqN m := eqN_of m (eqS_any m)
end Go.Proofs.YtbijfkpilncclaaGreat
