/- The specification's drawer of nodes: any node. -/
import Derived.Test.YtapddijogfpkaacDrawN
import Derived.Test.YtapddijogfpkaacDrawOne
import Derived.Test.YtapddijogfpkaacMany
namespace Go.Proofs.Ytapddijogfpkaac
open Go.RowKit Go.Deep
theorem Lits.newN (w : World) (vs : Array Value) (t : TypeId) (fr : Nat × Nat) {g : Nat} (hg : w.heap.size = g) : Lits (w.alloc (.cells vs t fr)) g vs.toList := hg ▸ Lits.new w vs t fr
theorem dKT : ∀ d, d ≤ 4 → dK d ≤ 12950 ∧ dT d ≤ 259259
  | 0, _ => by decide
  | 1, _ => by decide
  | 2, _ => by decide
  | 3, _ => by decide
  | 4, _ => by decide
  | d + 5, h => by omega
/-- a box holds a node, what is within lies elsewhere; the result's cell is as it was laid. -/
def AnS (b b0 R M T k : Nat) (w w' : World) : Prop :=
  ∃ (n : Nd) (h : Hd), w'.heap[b]? = some (.cells #[.int .i64 n.kind, .string n.data, .slice h.A n.ptrs.length h.a, .int .i64 n.size, .int .i64 n.count, .slice h.B n.items.length h.b] nodeT (0, 0)) ∧ w'.heap[b0]? = some (.cells #[.int .i64 0, .string { data := #[] }, .slice none 0 0, .int .i64 0, .int .i64 0, .slice none 0 0] nodeT (0, 0)) ∧ NdAt w' (fun j => b0 < j ∧ j ≠ b) M n h ∧ TB M n T ∧ Picked w R k w'
theorem AnS.pick {b b0 R M T k m : Nat} {w w1 w2 : World} (h : AnS b b0 R M T k w w1) (hp : Picked w1 R m w2) (hR : R < w.heap.size) (h0 : w.heap.size ≤ b0) (hb : b0 < b) : AnS b b0 R M T m w w2 := by
  obtain ⟨n, h, hx, hz, hn, ht, hk⟩ := h
  exact ⟨n, h, pick_rowN hx hp (by omega), pick_rowN hz hp (by omega), hn.map (fun _ h => h) (fun p _ _ hs hc => hc.block (hp.2.block _ hc.lt (by omega))), ht, hk.then hp⟩
theorem AnS.below {b b0 R M T k : Nat} {w w1 w2 : World} (h : AnS b b0 R M T k w w1) (hb : Below w1.heap.size w1 w2) : AnS b b0 R M T k w w2 := by
  obtain ⟨n, h, hx, hz, hn, ht, hk⟩ := h
  exact ⟨n, h, (hb.block _ (row_lt hx)).trans hx, (hb.block _ (row_lt hz)).trans hz, hn.below hb, ht, hk.below hb⟩
theorem AnS.mono {b b0 R M T k M' T' k' : Nat} {w w1 : World} (h : AnS b b0 R M T k w w1) (hM : M ≤ M') (hT : T ≤ T') (hk : k ≤ k') : AnS b b0 R M' T' k' w w1 := by
  obtain ⟨n, h, hx, hz, hn, ht, hp⟩ := h
  exact ⟨n, h, hx, hz, hn.mono hM, ht.mono hn hM hT, hp.mono hk⟩
/-- the box is written anew. -/
theorem AnS.put {b b0 R M T k : Nat} {w w1 : World} {cs : Array Value} (n : Nd) (h : Hd) (hx : w1.heap[b]? = some (.cells cs nodeT (0, 0))) (hs : cs.size = 6) (hz : w1.heap[b0]? = some (.cells #[.int .i64 0, .string { data := #[] }, .slice none 0 0, .int .i64 0, .int .i64 0, .slice none 0 0] nodeT (0, 0))) (hn : NdAt w1 (fun j => b0 < j ∧ j ≠ b) M n h) (ht : TB M n T) (hp : Picked w R k w1) (hR : R < w.heap.size) (h0 : w.heap.size ≤ b0) (hb : b0 < b) :
    ∃ wf, ((((((w1.setCell ⟨b, 0, none⟩ (.int .i64 n.kind)).setCell ⟨b, 1, none⟩ (.string n.data)).setCell ⟨b, 2, none⟩ (.slice h.A n.ptrs.length h.a)).setCell ⟨b, 3, none⟩ (.int .i64 n.size)).setCell ⟨b, 4, none⟩ (.int .i64 n.count)).setCell ⟨b, 5, none⟩ (.slice h.B n.items.length h.b)) = wf ∧ AnS b b0 R M T k w wf := by
  obtain ⟨l, rfl⟩ : ∃ l, cs = ⟨l⟩ := ⟨cs.toList, rfl⟩
  match l, hs with
  | [a0, a1, a2, a3, a4, a5], _ =>
    obtain ⟨wf, hwf, hrw, hpw, huw⟩ := store6 hx hp hR (by omega) (.int .i64 n.kind) (.string n.data) (.slice h.A n.ptrs.length h.a) (.int .i64 n.size) (.int .i64 n.count) (.slice h.B n.items.length h.b)
    have hk : ∀ j, j ≠ b → wf.heap[j]? = w1.heap[j]? := by
      intro j hj
      rw [← hwf]
      simp [World.setCell, Array.getElem?_modify, hj, Ne.symm hj]
    exact ⟨wf, hwf, n, h, hrw, (hk b0 (by omega)).trans hz, hn.map (fun _ h => h) (fun p _ _ hs hc => hc.block (hk _ hs.2)), ht, hpw⟩
/-- one cell of the box. -/
theorem AnS.set {b b0 R M T k : Nat} {w w1 : World} {n : Nd} {h : Hd} (n' : Nd) (i : Nat) (u : Value) (hx : w1.heap[b]? = some (.cells #[.int .i64 n.kind, .string n.data, .slice h.A n.ptrs.length h.a, .int .i64 n.size, .int .i64 n.count, .slice h.B n.items.length h.b] nodeT (0, 0))) (hz : w1.heap[b0]? = some (.cells #[.int .i64 0, .string { data := #[] }, .slice none 0 0, .int .i64 0, .int .i64 0, .slice none 0 0] nodeT (0, 0))) (hn : NdAt w1 (fun j => b0 < j ∧ j ≠ b) M n h) (hp : Picked w R k w1) (hR : R < w.heap.size) (h0 : w.heap.size ≤ b0) (hb : b0 < b)
    (hs : (#[.int .i64 n.kind, .string n.data, .slice h.A n.ptrs.length h.a, .int .i64 n.size, .int .i64 n.count, .slice h.B n.items.length h.b]).setIfInBounds i u = #[.int .i64 n'.kind, .string n'.data, .slice h.A n'.ptrs.length h.a, .int .i64 n'.size, .int .i64 n'.count, .slice h.B n'.items.length h.b]) (h1 : n'.ptrs = n.ptrs) (h2 : n'.items = n.items) (h3 : n'.data.size ≤ maxLen) (h4 : TB M n' T) : AnS b b0 R M T k w (w1.setCell ⟨b, i, none⟩ u) := by
  have hk : ∀ j, j ≠ b → (w1.setCell ⟨b, i, none⟩ u).heap[j]? = w1.heap[j]? := by
    intro j hj
    simp [World.setCell, Array.getElem?_modify, hj, Ne.symm hj]
  refine ⟨n', h, by rw [← hs]; exact row_setN hx i u, (hk b0 (by omega)).trans hz, ?_, h4, picked_storeN hp hR (by omega) i u⟩
  have := hn.map (w' := w1.setCell ⟨b, i, none⟩ u) (fun _ h => h) (fun p _ _ hs hc => hc.block (hk _ hs.2))
  exact ⟨h3, h1 ▸ this.2.1, h2 ▸ this.2.2⟩
/-- the end: the box is read, the result's cells are written. -/
theorem AnS.fin {b b0 R M T k : Nat} {w w1 : World} {n : Nd} {h : Hd} (hz : w1.heap[b0]? = some (.cells #[.int .i64 0, .string { data := #[] }, .slice none 0 0, .int .i64 0, .int .i64 0, .slice none 0 0] nodeT (0, 0))) (hn : NdAt w1 (fun j => b0 < j ∧ j ≠ b) M n h) (ht : TB M n T) (hp : Picked w R k w1) (hR : R < w.heap.size) (h0 : w.heap.size = b0) :
    ∃ wf, ((((((w1.setCell ⟨b0, 0, none⟩ (.int .i64 n.kind)).setCell ⟨b0, 1, none⟩ (.string n.data)).setCell ⟨b0, 2, none⟩ (.slice h.A n.ptrs.length h.a)).setCell ⟨b0, 3, none⟩ (.int .i64 n.size)).setCell ⟨b0, 4, none⟩ (.int .i64 n.count)).setCell ⟨b0, 5, none⟩ (.slice h.B n.items.length h.b)) = wf ∧ wf.heap[b0]? = some (.cells #[.int .i64 n.kind, .string n.data, .slice h.A n.ptrs.length h.a, .int .i64 n.size, .int .i64 n.count, .slice h.B n.items.length h.b] nodeT (0, 0)) ∧ NdP M T R k w (.returned (.agg #[.int .i64 n.kind, .string n.data, .slice h.A n.ptrs.length h.a, .int .i64 n.size, .int .i64 n.count, .slice h.B n.items.length h.b])) wf := by
  obtain ⟨wf, hwf, hrw, hpw, huw⟩ := store6 hz hp hR (by omega) (.int .i64 n.kind) (.string n.data) (.slice h.A n.ptrs.length h.a) (.int .i64 n.size) (.int .i64 n.count) (.slice h.B n.items.length h.b)
  refine ⟨wf, hwf, hrw, n, h, rfl, ?_, ht, hpw⟩
  have h1 : NdAt w1 (From (b0 + 1)) M n h := hn.weak (fun _ hk => hk.1)
  exact (h1.upon huw).from_ (by omega)
/-- as AnS.put, with the values as they stand. -/
theorem AnS.put' {b b0 R M T k : Nat} {w w1 : World} {a0 a1 a2 a3 a4 a5 : Value} (n : Nd) (h : Hd) (v0 v1 v2 v3 v4 v5 : Value) (hv : (#[v0, v1, v2, v3, v4, v5] : Array Value) = #[.int .i64 n.kind, .string n.data, .slice h.A n.ptrs.length h.a, .int .i64 n.size, .int .i64 n.count, .slice h.B n.items.length h.b]) (hx : w1.heap[b]? = some (.cells #[a0, a1, a2, a3, a4, a5] nodeT (0, 0))) (hz : w1.heap[b0]? = some (.cells #[.int .i64 0, .string { data := #[] }, .slice none 0 0, .int .i64 0, .int .i64 0, .slice none 0 0] nodeT (0, 0))) (hn : NdAt w1 (fun j => b0 < j ∧ j ≠ b) M n h) (ht : TB M n T) (hp : Picked w R k w1) (hR : R < w.heap.size) (h0 : w.heap.size ≤ b0) (hb : b0 < b) :
    AnS b b0 R M T k w ((((((w1.setCell ⟨b, 0, none⟩ v0).setCell ⟨b, 1, none⟩ v1).setCell ⟨b, 2, none⟩ v2).setCell ⟨b, 3, none⟩ v3).setCell ⟨b, 4, none⟩ v4).setCell ⟨b, 5, none⟩ v5) := by
  obtain ⟨wf, hwf, hrw, hpw, huw⟩ := store6 hx hp hR (by omega) v0 v1 v2 v3 v4 v5
  rw [hwf]
  have hk : ∀ j, j ≠ b → wf.heap[j]? = w1.heap[j]? := by
    intro j hj
    rw [← hwf]
    simp [World.setCell, Array.getElem?_modify, hj, Ne.symm hj]
  exact ⟨n, h, hv ▸ hrw, (hk b0 (by omega)).trans hz, hn.map (fun _ h => h) (fun p _ _ hs hc => hc.block (hk _ hs.2)), ht, hpw⟩
theorem AnS.putE {b b0 R M T k : Nat} {w w1 : World} {a0 a1 a2 a3 a4 a5 : Value} (n : Nd) (h : Hd) (v0 v1 v2 v3 v4 v5 : Value) (hv : (#[v0, v1, v2, v3, v4, v5] : Array Value) = #[.int .i64 n.kind, .string n.data, .slice h.A n.ptrs.length h.a, .int .i64 n.size, .int .i64 n.count, .slice h.B n.items.length h.b]) (hx : w1.heap[b]? = some (.cells #[a0, a1, a2, a3, a4, a5] nodeT (0, 0))) (hz : w1.heap[b0]? = some (.cells #[.int .i64 0, .string { data := #[] }, .slice none 0 0, .int .i64 0, .int .i64 0, .slice none 0 0] nodeT (0, 0))) (hn : NdAt w1 (fun j => b0 < j ∧ j ≠ b) M n h) (ht : TB M n T) (hp : Picked w R k w1) (hR : R < w.heap.size) (h0 : w.heap.size ≤ b0) (hb : b0 < b) :
    ∃ wq, ((((((w1.setCell ⟨b, 0, none⟩ v0).setCell ⟨b, 1, none⟩ v1).setCell ⟨b, 2, none⟩ v2).setCell ⟨b, 3, none⟩ v3).setCell ⟨b, 4, none⟩ v4).setCell ⟨b, 5, none⟩ v5) = wq ∧ AnS b b0 R M T k w wq := ⟨_, rfl, AnS.put' n h v0 v1 v2 v3 v4 v5 hv hx hz hn ht hp hR h0 hb⟩
theorem an_pick {b b0 R M k m : Nat} {w w1 w2 w3 : World} {n : Nd} {h : Hd} (hx : w1.heap[b]? = some (.cells #[.int .i64 n.kind, .string n.data, .slice h.A n.ptrs.length h.a, .int .i64 n.size, .int .i64 n.count, .slice h.B n.items.length h.b] nodeT (0, 0))) (hz : w1.heap[b0]? = some (.cells #[.int .i64 0, .string { data := #[] }, .slice none 0 0, .int .i64 0, .int .i64 0, .slice none 0 0] nodeT (0, 0))) (hn : NdAt w1 (fun j => b0 < j ∧ j ≠ b) M n h) (hp : Picked w R k w1) (hbl : Below w1.heap.size w1 w2) (hp3 : Picked w2 R m w3) (hR : R < w.heap.size) (h0 : w.heap.size ≤ b0) (hb : b0 < b) :
    w3.heap[b]? = some (.cells #[.int .i64 n.kind, .string n.data, .slice h.A n.ptrs.length h.a, .int .i64 n.size, .int .i64 n.count, .slice h.B n.items.length h.b] nodeT (0, 0)) ∧ w3.heap[b0]? = some (.cells #[.int .i64 0, .string { data := #[] }, .slice none 0 0, .int .i64 0, .int .i64 0, .slice none 0 0] nodeT (0, 0)) ∧ NdAt w3 (fun j => b0 < j ∧ j ≠ b) M n h ∧ Picked w R m w3 :=
  ⟨pick_rowN ((hbl.block _ (row_lt hx)).trans hx) hp3 (by omega), pick_rowN ((hbl.block _ (row_lt hz)).trans hz) hp3 (by omega), (hn.below hbl).map (fun _ h => h) (fun p _ _ hs hc => hc.block (hp3.2.block _ hc.lt (by omega))), (hp.below hbl).then hp3⟩
theorem drew_below (w : World) : Below w.heap.size w w.drew := ⟨rfl, rfl, rfl, Nat.le_refl _, fun _ _ => rfl⟩
theorem rd_lit {w : World} {R n : Nat} (h : Rd w R n) (o : Obj) : Rd (w.drew.alloc o) R n := (h.below (drew_below w)).below ((Below.refl _ _).alloc (Nat.le_refl _) _)
end Go.Proofs.Ytapddijogfpkaac
