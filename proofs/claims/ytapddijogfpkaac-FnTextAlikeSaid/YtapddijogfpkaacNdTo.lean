/- The laws' own copies of nodes. -/
import Derived.Test.YtapddijogfpkaacNdSz
import Derived.Deep.OwnRows
namespace Go.Proofs.Ytapddijogfpkaac
open Go.RowKit
abbrev nodeT : TypeId := 26
abbrev nodesT : TypeId := 24
theorem infoNd : (Try.prog.info? nodeT).map (fun i => (i.zero, i.size, i.bytes)) = some (some (.agg #[.int .i64 0, .string ByteArray.empty, .slice none 0 0, .int .i64 0, .int .i64 0, .slice none 0 0]), 6, 88) := by kernel_rfl
theorem row_setN {w : World} {g : Nat} {cs : Array Value} {T : TypeId} (h : w.heap[g]? = some (.cells cs T (0, 0))) (i : Nat) (u : Value) : (w.setCell ⟨g, i, none⟩ u).heap[g]? = some (.cells (cs.setIfInBounds i u) T (0, 0)) := by
  simp [World.setCell, Array.getElem?_modify, h]
theorem add_zero0 (g j : Nat) : (⟨g, 0, none⟩ : Addr).add j = ⟨g, j, none⟩ := by
  unfold Addr.add
  split
  · rename_i h; rw [h]
  · simp
theorem some_at0 {arr : Array Value} {i n : Nat} (hs : arr.size = n) (h : i < n) : ∃ v, arr[i]? = some v := ⟨arr[i]'(by omega), by rw [Array.getElem?_eq_getElem]⟩
/-- six cells are written behind the first k nodes. -/
theorem arr_step {arr : Array Value} {q : List (Nd × Hd)} {N : Nat} (h : ∀ (j : Nat) (u : Value), (rowOf q)[j]? = some u → arr[j]? = some u) (hs : arr.size = N * 6) (hk : q.length < N) (r : Nd × Hd) :
    ∀ (j : Nat) (u : Value), (rowOf (q ++ [r]))[j]? = some u → ((((((arr.setIfInBounds (q.length * 6) (.int .i64 r.1.kind)).setIfInBounds (q.length * 6 + 1) (.string r.1.data)).setIfInBounds (q.length * 6 + 2) (.slice r.2.A r.1.ptrs.length r.2.a)).setIfInBounds (q.length * 6 + 3) (.int .i64 r.1.size)).setIfInBounds (q.length * 6 + 4) (.int .i64 r.1.count)).setIfInBounds (q.length * 6 + 5) (.slice r.2.B r.1.items.length r.2.b))[j]? = some u := by
  intro j u hj
  have hlt : j < (rowOf (q ++ [r])).length := by
    rcases Nat.lt_or_ge j (rowOf (q ++ [r])).length with h' | h'
    · exact h'
    · rw [List.getElem?_eq_none h'] at hj; cases hj
  rw [rowOf_length] at hlt
  simp only [List.length_append, List.length_cons, List.length_nil] at hlt
  by_cases hj2 : j < q.length * 6
  · rw [rowOf_app, List.getElem?_append_left (by rw [rowOf_length]; exact hj2)] at hj
    rw [Array.getElem?_setIfInBounds_ne (by omega), Array.getElem?_setIfInBounds_ne (by omega), Array.getElem?_setIfInBounds_ne (by omega), Array.getElem?_setIfInBounds_ne (by omega), Array.getElem?_setIfInBounds_ne (by omega), Array.getElem?_setIfInBounds_ne (by omega)]
    exact h j u hj
  · obtain ⟨a0, a1, a2, a3, a4, a5⟩ := rowOf_at (q ++ [r]) q.length r (by simp)
    have hcase : j = q.length * 6 ∨ j = q.length * 6 + 1 ∨ j = q.length * 6 + 2 ∨ j = q.length * 6 + 3 ∨ j = q.length * 6 + 4 ∨ j = q.length * 6 + 5 := by omega
    rcases hcase with e | e | e | e | e | e
    · rw [e, a0] at hj
      cases hj
      rw [e, Array.getElem?_setIfInBounds_ne (by omega), Array.getElem?_setIfInBounds_ne (by omega), Array.getElem?_setIfInBounds_ne (by omega), Array.getElem?_setIfInBounds_ne (by omega), Array.getElem?_setIfInBounds_ne (by omega), Array.getElem?_setIfInBounds_self_of_lt (by omega)]
    · rw [e, a1] at hj
      cases hj
      rw [e, Array.getElem?_setIfInBounds_ne (by omega), Array.getElem?_setIfInBounds_ne (by omega), Array.getElem?_setIfInBounds_ne (by omega), Array.getElem?_setIfInBounds_ne (by omega), Array.getElem?_setIfInBounds_self_of_lt (by simp; omega)]
    · rw [e, a2] at hj
      cases hj
      rw [e, Array.getElem?_setIfInBounds_ne (by omega), Array.getElem?_setIfInBounds_ne (by omega), Array.getElem?_setIfInBounds_ne (by omega), Array.getElem?_setIfInBounds_self_of_lt (by simp; omega)]
    · rw [e, a3] at hj
      cases hj
      rw [e, Array.getElem?_setIfInBounds_ne (by omega), Array.getElem?_setIfInBounds_ne (by omega), Array.getElem?_setIfInBounds_self_of_lt (by simp; omega)]
    · rw [e, a4] at hj
      cases hj
      rw [e, Array.getElem?_setIfInBounds_ne (by omega), Array.getElem?_setIfInBounds_self_of_lt (by simp; omega)]
    · rw [e, a5] at hj
      cases hj
      rw [e, Array.getElem?_setIfInBounds_self_of_lt (by simp; omega)]
/-- a node of new memory is handed back. -/
def NewN (m : Nat) (n : Nd) (w : World) (e : Ending) (w' : World) : Prop := ∃ h : Hd, e = .returned (.agg #[.int .i64 n.kind, .string n.data, .slice h.A n.ptrs.length h.a, .int .i64 n.size, .int .i64 n.count, .slice h.B n.items.length h.b]) ∧ NdAt w' (From w.heap.size) m n h ∧ Below w.heap.size w w'
def NewS (m : Nat) (l : List Nd) (w : World) (e : Ending) (w' : World) : Prop := ∃ (A : Option Addr) (c : Nat), e = .returned (.slice A l.length c) ∧ NdsAt w' (From w.heap.size) m A l ∧ Below w.heap.size w w'
theorem row_set6 {w : World} {g i : Nat} {v0 v1 v2 v3 v4 v5 : Value} {T : TypeId} (h : w.heap[g]? = some (.cells #[v0, v1, v2, v3, v4, v5] T (0, 0))) (u : Value) : (w.setCell ⟨g, i, none⟩ u).heap[g]? = some (.cells (#[v0, v1, v2, v3, v4, v5].setIfInBounds i u) T (0, 0)) := row_setN h i u
/-- what stands from block B on stays. -/
structure Upon (B : Nat) (w w' : World) : Prop where
  size : w.heap.size ≤ w'.heap.size
  block : ∀ k, B ≤ k → k < w.heap.size → w'.heap[k]? = w.heap[k]?
theorem Upon.refl (B : Nat) (w : World) : Upon B w w := ⟨Nat.le_refl _, fun _ _ _ => rfl⟩
theorem Upon.setCell {B : Nat} {a w : World} (h : Upon B a w) {p : Addr} (hp : p.block < B) (u : Value) : Upon B a (w.setCell p u) :=
  ⟨by simpa [World.setCell] using h.size, fun k hk hl => (Below.heap_setCell w p u k (by omega)).trans (h.block k hk hl)⟩
theorem Upon.alloc {B : Nat} {a w : World} (h : Upon B a w) (o : Obj) : Upon B a (w.alloc o) :=
  ⟨by have := h.size; simp; omega, fun k hk hl => (Below.heap_alloc w o k (by have := h.size; omega)).trans (h.block k hk hl)⟩
theorem Upon.below {B : Nat} {a w w' : World} (h : Upon B a w) (hb : Below w.heap.size w w') : Upon B a w' :=
  ⟨Nat.le_trans h.size hb.size, fun k hk hl => (hb.block k (by have := h.size; omega)).trans (h.block k hk hl)⟩
theorem NdsAt.upon {w w' : World} {B m : Nat} {A : Option Addr} {l : List Nd} (h : NdsAt w (From B) m A l) (hu : Upon B w w') : NdsAt w' (From B) m A l :=
  NdsAt.map (fun _ h => h) (fun p _ _ hs hc => hc.block (hu.block _ hs hc.lt)) _ _ _ h
theorem NdAt.upon {w w' : World} {B m : Nat} {n : Nd} {h : Hd} (hn : NdAt w (From B) m n h) (hu : Upon B w w') : NdAt w' (From B) m n h := ⟨hn.1, hn.2.1.upon hu, hn.2.2.upon hu⟩
theorem NdsAt.from_ {w : World} {B B' m : Nat} {A : Option Addr} {l : List Nd} (h : NdsAt w (From B) m A l) (hB : B' ≤ B) : NdsAt w (From B') m A l := h.weak (fun _ hk => Nat.le_trans hB hk)
theorem NdAt.from_ {w : World} {B B' m : Nat} {n : Nd} {h : Hd} (hn : NdAt w (From B) m n h) (hB : B' ≤ B) : NdAt w (From B') m n h := hn.weak (fun _ hk => Nat.le_trans hB hk)
end Go.Proofs.Ytapddijogfpkaac
