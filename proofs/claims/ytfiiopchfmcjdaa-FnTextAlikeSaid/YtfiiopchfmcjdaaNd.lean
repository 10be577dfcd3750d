/- Nodes as trees, and how they lie in memory. No Go text. -/
import Derived.Test.YtfiiopchfmcjdaaIn
import Derived.Test.YtfiiopchfmcjdaaKeeps
import Derived.Laws.OwnMore
import Derived.Deep.Slices
import Derived.Deep.Fields
import Derived.ChangeArms
import Derived.ChangeSame
namespace Go.Proofs.Ytfiiopchfmcjdaa
open Go.RowKit Go.ChangeShapes Go.WideShapes Go.Deep
inductive Nd where
  | mk (kind : Int) (data : ByteArray) (ptrs : List Nd) (size count : Int) (items : List Nd)
namespace Nd
def kind : Nd → Int | .mk k _ _ _ _ _ => k
def data : Nd → ByteArray | .mk _ d _ _ _ _ => d
def ptrs : Nd → List Nd | .mk _ _ p _ _ _ => p
def size : Nd → Int | .mk _ _ _ s _ _ => s
def count : Nd → Int | .mk _ _ _ _ c _ => c
def items : Nd → List Nd | .mk _ _ _ _ _ i => i
end Nd
instance : Inhabited Nd := ⟨.mk 0 ByteArray.empty [] 0 0 []⟩
/-- the heads of a node's two slices. -/
structure Hd where
  A : Option Addr
  a : Nat
  B : Option Addr
  b : Nat
instance : Inhabited Hd := ⟨⟨none, 0, none, 0⟩⟩
/-- a node's six cells from an address on. -/
structure NdCell (w : World) (p : Addr) (n : Nd) (h : Hd) : Prop where
  c0 : w.cell? p = some (.int .i64 n.kind)
  c1 : w.cell? ⟨p.block, p.off + 1, none⟩ = some (.string n.data)
  c2 : w.cell? ⟨p.block, p.off + 2, none⟩ = some (.slice h.A n.ptrs.length h.a)
  c3 : w.cell? ⟨p.block, p.off + 3, none⟩ = some (.int .i64 n.size)
  c4 : w.cell? ⟨p.block, p.off + 4, none⟩ = some (.int .i64 n.count)
  c5 : w.cell? ⟨p.block, p.off + 5, none⟩ = some (.slice h.B n.items.length h.b)
theorem NdCell.map {w w' : World} {p : Addr} {n : Nd} {h : Hd} (hc : NdCell w p n h) (hf : ∀ i v, w.cell? ⟨p.block, p.off + i, none⟩ = some v → w'.cell? ⟨p.block, p.off + i, none⟩ = some v) (h0 : ∀ v, w.cell? p = some v → w'.cell? p = some v) : NdCell w' p n h :=
  ⟨h0 _ hc.c0, hf _ _ hc.c1, hf _ _ hc.c2, hf _ _ hc.c3, hf _ _ hc.c4, hf _ _ hc.c5⟩
theorem NdCell.lt {w : World} {p : Addr} {n : Nd} {h : Hd} (hc : NdCell w p n h) : p.block < w.heap.size := World.block_lt_of_cell? w _ hc.c0
theorem NdCell.block {w w' : World} {p : Addr} {n : Nd} {h : Hd} (hc : NdCell w p n h) (hb : w'.heap[p.block]? = w.heap[p.block]?) : NdCell w' p n h :=
  hc.map (fun i _v h => (World.cell?_of_block (w := w) (w' := w') (a := ⟨p.block, p.off + i, none⟩) hb).trans h) (fun _v h => (World.cell?_of_block (w := w) (w' := w') (a := p) hb).trans h)
/-- nodes side by side in a slice, with all that is within, so many levels down, in blocks of some kind. -/
def NdsAt (w : World) (S : Nat → Prop) : Nat → Option Addr → List Nd → Prop
  | 0, _, l => l = []
  | m + 1, A, l => l.length ≤ maxLen ∧ ∃ q : List (Nd × Hd), q.map (·.1) = l ∧ (q = [] ∨ ∃ x : Addr, A = some x ∧ S x.block ∧ ∀ k r, q[k]? = some r → NdCell w (x.add (k * 6)) r.1 r.2) ∧
      ∀ r ∈ q, r.1.data.size ≤ maxLen ∧ NdsAt w S m r.2.A r.1.ptrs ∧ NdsAt w S m r.2.B r.1.items
/-- what is within a node. -/
def NdAt (w : World) (S : Nat → Prop) (m : Nat) (n : Nd) (h : Hd) : Prop := n.data.size ≤ maxLen ∧ NdsAt w S m h.A n.ptrs ∧ NdsAt w S m h.B n.items
abbrev Any : Nat → Prop := fun _ => True
abbrev From (B : Nat) : Nat → Prop := fun k => B ≤ k
theorem NdsAt.map {w w' : World} {S S' : Nat → Prop} (hS : ∀ k, S k → S' k) (hf : ∀ p n h, S p.block → NdCell w p n h → NdCell w' p n h) : ∀ m A l, NdsAt w S m A l → NdsAt w' S' m A l
  | 0, _, _, h => h
  | m + 1, A, l, ⟨hl, q, hq, hc, hr⟩ => ⟨hl, q, hq, hc.imp id (fun ⟨x, hx, hs, hk⟩ => ⟨x, hx, hS _ hs, fun k r h => hf _ _ _ (by rw [addr_block]; exact hs) (hk k r h)⟩), fun r h => ⟨(hr r h).1, NdsAt.map hS hf m _ _ (hr r h).2.1, NdsAt.map hS hf m _ _ (hr r h).2.2⟩⟩
theorem NdAt.map {w w' : World} {S S' : Nat → Prop} {m : Nat} {n : Nd} {h : Hd} (hS : ∀ k, S k → S' k) (hf : ∀ p n h, S p.block → NdCell w p n h → NdCell w' p n h) (hn : NdAt w S m n h) : NdAt w' S' m n h := ⟨hn.1, NdsAt.map hS hf _ _ _ hn.2.1, NdsAt.map hS hf _ _ _ hn.2.2⟩
theorem cell_below {w w' : World} (hb : Below w.heap.size w w') : ∀ p n h, NdCell w p n h → NdCell w' p n h := fun p _ _ hc => hc.block (hb.block p.block hc.lt)
theorem NdsAt.below {w w' : World} {S : Nat → Prop} {m : Nat} {A : Option Addr} {l : List Nd} (h : NdsAt w S m A l) (hb : Below w.heap.size w w') : NdsAt w' S m A l := NdsAt.map (fun _ h => h) (fun p n h _ hc => cell_below hb p n h hc) _ _ _ h
theorem NdAt.below {w w' : World} {S : Nat → Prop} {m : Nat} {n : Nd} {h : Hd} (hn : NdAt w S m n h) (hb : Below w.heap.size w w') : NdAt w' S m n h := hn.map (fun _ h => h) (fun p n h _ hc => cell_below hb p n h hc)
theorem NdsAt.weak {w : World} {S S' : Nat → Prop} {m : Nat} {A : Option Addr} {l : List Nd} (h : NdsAt w S m A l) (hS : ∀ k, S k → S' k) : NdsAt w S' m A l := NdsAt.map hS (fun _ _ _ _ hc => hc) _ _ _ h
theorem NdAt.weak {w : World} {S S' : Nat → Prop} {m : Nat} {n : Nd} {h : Hd} (hn : NdAt w S m n h) (hS : ∀ k, S k → S' k) : NdAt w S' m n h := hn.map hS (fun _ _ _ _ hc => hc)
/-- a cell of a block that holds no node is written. -/
theorem NdsAt.other {w w' : World} {S : Nat → Prop} {m b : Nat} {A : Option Addr} {l : List Nd} (h : NdsAt w S m A l) (hS : ¬ S b) (hb : ∀ k, k < w.heap.size → k ≠ b → w'.heap[k]? = w.heap[k]?) : NdsAt w' S m A l :=
  NdsAt.map (fun _ h => h) (fun p _ _ hs hc => hc.block (hb _ hc.lt (by rintro rfl; exact hS hs))) _ _ _ h
theorem NdAt.other {w w' : World} {S : Nat → Prop} {m b : Nat} {n : Nd} {h : Hd} (hn : NdAt w S m n h) (hS : ¬ S b) (hb : ∀ k, k < w.heap.size → k ≠ b → w'.heap[k]? = w.heap[k]?) : NdAt w' S m n h := ⟨hn.1, hn.2.1.other hS hb, hn.2.2.other hS hb⟩
theorem NdsAt.nil (w : World) (S : Nat → Prop) (m : Nat) (A : Option Addr) : NdsAt w S m A [] := by
  cases m with
  | zero => exact rfl
  | succ m => exact ⟨by decide, [], rfl, .inl rfl, fun r h => by cases h⟩
theorem NdsAt.succ {w : World} {S : Nat → Prop} : ∀ m A l, NdsAt w S m A l → NdsAt w S (m + 1) A l
  | 0, A, l, h => by
    obtain rfl : l = [] := h
    exact NdsAt.nil _ _ _ _
  | m + 1, A, l, ⟨hl, q, hq, hc, hr⟩ => ⟨hl, q, hq, hc, fun r h => ⟨(hr r h).1, NdsAt.succ m _ _ (hr r h).2.1, NdsAt.succ m _ _ (hr r h).2.2⟩⟩
theorem NdsAt.mono {w : World} {S : Nat → Prop} {m k : Nat} {A : Option Addr} {l : List Nd} (h : NdsAt w S m A l) (hk : m ≤ k) : NdsAt w S k A l := by
  induction hk with
  | refl => exact h
  | step _ ih => exact NdsAt.succ _ _ _ ih
theorem NdAt.mono {w : World} {S : Nat → Prop} {m k : Nat} {n : Nd} {h : Hd} (hn : NdAt w S m n h) (hk : m ≤ k) : NdAt w S k n h := ⟨hn.1, hn.2.1.mono hk, hn.2.2.mono hk⟩
theorem NdsAt.len {w : World} {S : Nat → Prop} {m : Nat} {A : Option Addr} {l : List Nd} (h : NdsAt w S m A l) : l.length ≤ maxLen := by
  cases m with
  | zero =>
    obtain rfl : l = [] := h
    decide
  | succ m => exact h.1
theorem NdsAt.at_ {w : World} {S : Nat → Prop} {m : Nat} {A : Option Addr} {l : List Nd} (h : NdsAt w S (m + 1) A l) {k : Nat} (hk : k < l.length) :
    ∃ x hd, A = some x ∧ NdCell w (x.add (k * 6)) l[k] hd ∧ NdAt w S m l[k] hd := by
  obtain ⟨_, q, rfl, hc, hr⟩ := h
  rw [List.length_map] at hk
  rcases hc with rfl | ⟨x, hx, _, hc⟩
  · cases hk
  · refine ⟨x, (q[k]).2, hx, ?_, ?_⟩
    · rw [List.getElem_map]; exact hc k _ (List.getElem?_eq_getElem hk)
    · rw [List.getElem_map]; exact hr _ (List.getElem_mem hk)
/-- none at level 0. -/
theorem NdsAt.zero {w : World} {S : Nat → Prop} {A : Option Addr} {l : List Nd} (h : NdsAt w S 0 A l) : l = [] := h
theorem NdsAt.pred {w : World} {S : Nat → Prop} {m : Nat} {A : Option Addr} {l : List Nd} (h : NdsAt w S m A l) {k : Nat} (hk : k < l.length) : ∃ j, m = j + 1 := by
  cases m with
  | zero => rw [h.zero] at hk; cases hk
  | succ j => exact ⟨j, rfl⟩
/-- the cells of nodes side by side. -/
def rowOf : List (Nd × Hd) → List Value
  | [] => []
  | r :: t => .int .i64 r.1.kind :: .string r.1.data :: .slice r.2.A r.1.ptrs.length r.2.a :: .int .i64 r.1.size :: .int .i64 r.1.count :: .slice r.2.B r.1.items.length r.2.b :: rowOf t
theorem rowOf_length : ∀ q, (rowOf q).length = q.length * 6
  | [] => rfl
  | r :: t => by simp only [rowOf, List.length_cons, rowOf_length t]; omega
theorem rowOf_app : ∀ (q p : List (Nd × Hd)), rowOf (q ++ p) = rowOf q ++ rowOf p
  | [], _ => rfl
  | r :: t, p => by rw [List.cons_append, rowOf, rowOf_app t p]; rfl
theorem rowOf_at : ∀ (q : List (Nd × Hd)) (k : Nat) (r : Nd × Hd), q[k]? = some r →
    (rowOf q)[k * 6]? = some (.int .i64 r.1.kind) ∧ (rowOf q)[k * 6 + 1]? = some (.string r.1.data) ∧ (rowOf q)[k * 6 + 2]? = some (.slice r.2.A r.1.ptrs.length r.2.a) ∧
    (rowOf q)[k * 6 + 3]? = some (.int .i64 r.1.size) ∧ (rowOf q)[k * 6 + 4]? = some (.int .i64 r.1.count) ∧ (rowOf q)[k * 6 + 5]? = some (.slice r.2.B r.1.items.length r.2.b)
  | [], k, r, h => by simp at h
  | p :: t, 0, r, h => by
    obtain rfl : p = r := by simpa using h
    exact ⟨rfl, rfl, rfl, rfl, rfl, rfl⟩
  | p :: t, k + 1, r, h => by
    have := rowOf_at t k r (by simpa using h)
    rw [show (k + 1) * 6 = k * 6 + 1 + 1 + 1 + 1 + 1 + 1 by omega]
    exact this
theorem rowOf_one : ∀ (q : List (Nd × Hd)), ∀ u ∈ rowOf q, u.oneCell' = true
  | [], _, h => by cases h
  | r :: t, u, h => by
    rcases List.mem_cons.1 h with rfl | h
    · rfl
    rcases List.mem_cons.1 h with rfl | h
    · rfl
    rcases List.mem_cons.1 h with rfl | h
    · rfl
    rcases List.mem_cons.1 h with rfl | h
    · rfl
    rcases List.mem_cons.1 h with rfl | h
    · rfl
    rcases List.mem_cons.1 h with rfl | h
    · rfl
    exact rowOf_one t u h
theorem add_offs (x : Addr) (n m : Nat) (hm : 0 < m) : (⟨(x.add n).block, (x.add n).off + m, none⟩ : Addr) = x.add (n + m) := by
  by_cases h : n = 0
  · subst h
    simp only [Addr.add, if_true, Nat.zero_add]
    rw [if_neg (by omega)]
  · simp only [Addr.add, h, if_false]
    rw [if_neg (by omega)]
    simp <;> omega
theorem cell_of_adds {w : World} {x : Addr} {n : Nd} {h : Hd} {k : Nat} (h0 : w.cell? (x.add (k * 6)) = some (.int .i64 n.kind)) (h1 : w.cell? (x.add (k * 6 + 1)) = some (.string n.data)) (h2 : w.cell? (x.add (k * 6 + 2)) = some (.slice h.A n.ptrs.length h.a)) (h3 : w.cell? (x.add (k * 6 + 3)) = some (.int .i64 n.size)) (h4 : w.cell? (x.add (k * 6 + 4)) = some (.int .i64 n.count)) (h5 : w.cell? (x.add (k * 6 + 5)) = some (.slice h.B n.items.length h.b)) : NdCell w (x.add (k * 6)) n h :=
  ⟨h0, by rw [add_offs _ _ 1 (by decide)]; exact h1, by rw [add_offs _ _ 2 (by decide)]; exact h2, by rw [add_offs _ _ 3 (by decide)]; exact h3, by rw [add_offs _ _ 4 (by decide)]; exact h4, by rw [add_offs _ _ 5 (by decide)]; exact h5⟩
/-- the six cells as the list of cells has them. -/
theorem cells_at {w : World} {x : Addr} {q : List (Nd × Hd)} (h : ∀ k r, q[k]? = some r → NdCell w (x.add (k * 6)) r.1 r.2) : ∀ j u, (rowOf q)[j]? = some u → w.cell? (x.add j) = some u := by
  intro j u hj
  have hlt : j < (rowOf q).length := by
    rcases Nat.lt_or_ge j (rowOf q).length with h' | h'
    · exact h'
    · rw [List.getElem?_eq_none h'] at hj; cases hj
  rw [rowOf_length] at hlt
  have hk : j / 6 < q.length := by omega
  obtain ⟨a0, a1, a2, a3, a4, a5⟩ := rowOf_at q (j / 6) q[j / 6] (List.getElem?_eq_getElem hk)
  obtain ⟨b0, b1, b2, b3, b4, b5⟩ := h (j / 6) q[j / 6] (List.getElem?_eq_getElem hk)
  rw [add_offs _ _ 1 (by decide)] at b1
  rw [add_offs _ _ 2 (by decide)] at b2
  rw [add_offs _ _ 3 (by decide)] at b3
  rw [add_offs _ _ 4 (by decide)] at b4
  rw [add_offs _ _ 5 (by decide)] at b5
  have hcase : j = j / 6 * 6 ∨ j = j / 6 * 6 + 1 ∨ j = j / 6 * 6 + 2 ∨ j = j / 6 * 6 + 3 ∨ j = j / 6 * 6 + 4 ∨ j = j / 6 * 6 + 5 := by omega
  generalize j / 6 * 6 = z at *
  rcases hcase with e | e | e | e | e | e <;> subst e
  · rw [a0] at hj; cases hj; exact b0
  · rw [a1] at hj; cases hj; exact b1
  · rw [a2] at hj; cases hj; exact b2
  · rw [a3] at hj; cases hj; exact b3
  · rw [a4] at hj; cases hj; exact b4
  · rw [a5] at hj; cases hj; exact b5
theorem at_cells {w : World} {x : Addr} {q : List (Nd × Hd)} (h : ∀ j u, (rowOf q)[j]? = some u → w.cell? (x.add j) = some u) : ∀ k r, q[k]? = some r → NdCell w (x.add (k * 6)) r.1 r.2 := by
  intro k r hk
  obtain ⟨a0, a1, a2, a3, a4, a5⟩ := rowOf_at q k r hk
  exact cell_of_adds (h _ _ a0) (h _ _ a1) (h _ _ a2) (h _ _ a3) (h _ _ a4) (h _ _ a5)
/-- a row of the call's own that holds nodes. -/
theorem nds_of_own {w : World} {S : Nat → Prop} {R T m : Nat} {v : Value} {q : List (Nd × Hd)} (h : w.ownsRow R T 6 v q.length (rowOf q)) (hS : ∀ k, R ≤ k → S k) (hq : q.length ≤ maxLen) (hr : ∀ r ∈ q, NdAt w S m r.1 r.2) : ∃ A cap, v = .slice A q.length cap ∧ NdsAt w S (m + 1) A (q.map (·.1)) := by
  rcases h.2 with ⟨rfl, h0⟩ | ⟨g, cap, cur, rfl, hR, hg, _⟩
  · obtain rfl : q = [] := List.eq_nil_of_length_eq_zero h0
    exact ⟨none, 0, rfl, NdsAt.nil _ _ _ _⟩
  · exact ⟨_, cap, rfl, by simpa using hq, q, rfl, .inr ⟨_, rfl, hS _ hR, at_cells (fun j u hj => h.cells (g := g) rfl j u hj)⟩, hr⟩
/-- a row of cells that holds nodes. -/
theorem nds_of_row {w : World} {S : Nat → Prop} {g T m : Nat} {arr : Array Value} {q : List (Nd × Hd)} (h : w.heap[g]? = some (.cells arr T (0, 0))) (hS : S g) (hq : q.length ≤ maxLen) (ha : ∀ (j : Nat) (u : Value), (rowOf q)[j]? = some u → arr[j]? = some u) (hr : ∀ r ∈ q, NdAt w S m r.1 r.2) : NdsAt w S (m + 1) (some ⟨g, 0, none⟩) (q.map (·.1)) :=
  ⟨by simpa using hq, q, rfl, .inr ⟨_, rfl, hS, at_cells (fun j u hj => by
    have : (⟨g, 0, none⟩ : Addr).add j = ⟨g, j, none⟩ := by unfold Addr.add; split <;> simp_all
    rw [this, cell_of_row _ _ _ _ _ _ h]; exact ha j u hj)⟩, hr⟩
/-- the nodes of a slice as pairs. -/
theorem NdsAt.pairs {w : World} {S : Nat → Prop} {m : Nat} {A : Option Addr} {l : List Nd} (h : NdsAt w S (m + 1) A l) : ∃ q : List (Nd × Hd), q.map (·.1) = l ∧ (∀ r ∈ q, NdAt w S m r.1 r.2) ∧ (q = [] ∨ ∃ x, A = some x ∧ ∀ j u, (rowOf q)[j]? = some u → w.cell? (x.add j) = some u) := by
  obtain ⟨_, q, hq, hc, hr⟩ := h
  exact ⟨q, hq, hr, hc.imp id (fun ⟨x, hx, _, hk⟩ => ⟨x, hx, cells_at hk⟩)⟩
section
variable {H : Type} {enc : TypeId × Value → H} {w : World} {base : Nat} {spare : Nat → Bool} {held : Bool}
theorem open6 {P : Program} {t : TypeId} {fuel : Nat} {cs : List Value} {x : DataW H × List MemPlace} {f0 f1 f2 f3 f4 f5 : Field} (hs : P.underlying t = some (.struct #[f0, f1, f2, f3, f4, f5])) (hone : oneCellFields P #[f0, f1, f2, f3, f4, f5] = true) (hC : P.cellsOf t = 6)
    (h : DataW.trod enc P w base spare held fuel t cs = some x) :
    ∃ (n : Nat) (v0 v1 v2 v3 v4 v5 : Value) (y0 y1 y2 y3 y4 y5 : DataW H × List MemPlace), fuel = n + 1 ∧ cs = [v0, v1, v2, v3, v4, v5] ∧
      DataW.trod enc P w base spare held n f0.type [v0] = some y0 ∧
      DataW.trod enc P w base spare held n f1.type [v1] = some y1 ∧
      DataW.trod enc P w base spare held n f2.type [v2] = some y2 ∧
      DataW.trod enc P w base spare held n f3.type [v3] = some y3 ∧
      DataW.trod enc P w base spare held n f4.type [v4] = some y4 ∧
      DataW.trod enc P w base spare held n f5.type [v5] = some y5 := by
  obtain ⟨xs, n, rfl, -, hl, hlen, hg⟩ := DataW.trod_struct hs h
  match cs, hl.trans hC with
  | [v0, v1, v2, v3, v4, v5], _ =>
    match xs, hlen with
    | [y0, y1, y2, y3, y4, y5], _ =>
      have g0 := hg 0 f0 rfl
      have g1 := hg 1 f1 rfl
      have g2 := hg 2 f2 rfl
      have g3 := hg 3 f3 rfl
      have g4 := hg 4 f4 rfl
      have g5 := hg 5 f5 rfl
      rw [(hone_of hone 0 f0 rfl).1, (hone_of hone 0 f0 rfl).2] at g0
      rw [(hone_of hone 1 f1 rfl).1, (hone_of hone 1 f1 rfl).2] at g1
      rw [(hone_of hone 2 f2 rfl).1, (hone_of hone 2 f2 rfl).2] at g2
      rw [(hone_of hone 3 f3 rfl).1, (hone_of hone 3 f3 rfl).2] at g3
      rw [(hone_of hone 4 f4 rfl).1, (hone_of hone 4 f4 rfl).2] at g4
      rw [(hone_of hone 5 f5 rfl).1, (hone_of hone 5 f5 rfl).2] at g5
      simp at g0 g1 g2 g3 g4 g5
      exact ⟨n, _, _, _, _, _, _, _, _, _, _, _, _, rfl, rfl, g0, g1, g2, g3, g4, g5⟩
theorem node_open {fuel : Nat} {cs : List Value} {x : DataW H × List MemPlace} (h : DataW.trod enc Try.prog w base spare held fuel 35 cs = some x) :
    ∃ (n : Nat) (k s c : Int) (d : ByteArray) (v2 v5 : Value) (y z : DataW H × List MemPlace), fuel = n + 1 ∧ cs = [.int .i64 k, .string d, v2, .int .i64 s, .int .i64 c, v5] ∧ d.size ≤ maxLen ∧
      DataW.trod enc Try.prog w base spare held n 33 [v2] = some y ∧ DataW.trod enc Try.prog w base spare held n 33 [v5] = some z := by
  obtain ⟨n, v0, v1, v2, v3, v4, v5, y0, y1, y2, y3, y4, y5, rfl, rfl, g0, g1, g2, g3, g4, g5⟩ := open6 Try.underlying35 (by kernel_rfl) (by kernel_rfl) h
  obtain ⟨z0, e0, _⟩ := DataW.trod_int Try.underlying3 g0
  obtain ⟨z1, e1, _, hw⟩ := DataW.trod_string Try.underlying9 g1
  obtain ⟨z3, e3, _⟩ := DataW.trod_int Try.underlying3 g3
  obtain ⟨z4, e4, _⟩ := DataW.trod_int Try.underlying3 g4
  simp only [List.cons.injEq, and_true] at e0 e1 e3 e4
  subst e0 e1 e3 e4
  exact ⟨n, z0, z3, z4, z1, v2, v5, y2, y5, rfl, rfl, hw, g2, g5⟩
theorem cells_le {p : Addr} {n : Nat} {cs : List Value} (h : w.cells? base p n = some cs) : ∀ j, j < n → w.cell? (p.add j) = cs[j]? := by
  obtain ⟨_, _, hat⟩ := World.cells?_some h
  exact hat
/-- a slice of nodes that came in. -/
theorem nds_open : ∀ (fuel : Nat) (v : Value) (x : DataW H × List MemPlace), DataW.trod enc Try.prog w base spare held fuel 33 [v] = some x → ∃ (A : Option Addr) (c : Nat) (l : List Nd), v = .slice A l.length c ∧ NdsAt w Any fuel A l := by
  intro fuel
  induction fuel using Nat.strongRecOn with
  | _ fuel ih =>
    intro v x h
    rcases DataW.trod_slice Try.underlying33 h with ⟨hv, _⟩ | ⟨a, len, cap, elems, rest, n, rfl, hv, -, -, hl, hm, hel, he, -, -⟩
    · simp at hv
      exact ⟨none, 0, [], hv, NdsAt.nil _ _ _ _⟩
    · simp at hv
      have hall : ∀ i, i < len → ∃ r : Nd × Hd, NdCell w (a.add (i * 6)) r.1 r.2 ∧ NdAt w Any n r.1 r.2 := by
        intro i hi
        have h1 := he i hi
        rw [List.getElem?_eq_getElem (by omega), Option.bind_eq_some_iff, show (Try.prog).cellsOf 35 = 6 by kernel_rfl] at h1
        obtain ⟨cs, hcs, ht⟩ := h1
        obtain ⟨n', k, s, c, d, v2, v5, y, z, rfl, rfl, hd, g2, g5⟩ := node_open ht
        obtain ⟨A2, c2, l2, rfl, hn2⟩ := ih n' (by omega) v2 y g2
        obtain ⟨A5, c5, l5, rfl, hn5⟩ := ih n' (by omega) v5 z g5
        have hat := cells_le hcs
        have e0 := hat 0 (by decide)
        have e1 := hat 1 (by decide)
        have e2 := hat 2 (by decide)
        have e3 := hat 3 (by decide)
        have e4 := hat 4 (by decide)
        have e5 := hat 5 (by decide)
        rw [Go.Deep.add_add] at e0 e1 e2 e3 e4 e5
        simp at e0 e1 e2 e3 e4 e5
        have hk := cell_of_adds (n := .mk k d l2 s c l5) (h := ⟨A2, c2, A5, c5⟩) e0 e1 e2 e3 e4 e5
        have hn : NdAt w Any (n' + 1) (.mk k d l2 s c l5) ⟨A2, c2, A5, c5⟩ := And.intro hd (And.intro (NdsAt.succ _ _ _ hn2) (NdsAt.succ _ _ _ hn5))
        exact ⟨(.mk k d l2 s c l5, ⟨A2, c2, A5, c5⟩), hk, hn⟩
      haveI : Inhabited (Nd × Hd) := ⟨(default, default)⟩
      obtain ⟨g, hg⟩ := choose_lt hall
      refine ⟨some a, cap, ((List.range len).map g).map (·.1), by simpa using hv, by simp; omega, (List.range len).map g, rfl, .inr ⟨a, rfl, trivial, fun k r hk => ?_⟩, fun r hr => ?_⟩
      · rw [List.getElem?_map] at hk
        by_cases hlt : k < len
        · rw [List.getElem?_range hlt] at hk
          injection hk with hk
          subst hk
          exact (hg k hlt).1
        · rw [List.getElem?_eq_none (by simpa using hlt)] at hk; cases hk
      · obtain ⟨i, hi, rfl⟩ := List.mem_map.1 hr
        have := (hg i (by simpa using hi)).2
        exact this
set_option maxRecDepth 100000 in
/-- a node that came in by value. -/
theorem nd_open {t : Value} {r : Reach} {b0 : Nat} {d : DataW H} {p : List MemPlace} (hv : Value.okWide Try.prog w r b0 35 t) (h : DataW.Trod enc Try.prog w base spare held 35 t d p) :
    ∃ (m : Nat) (n : Nd) (h : Hd), t = .agg #[.int .i64 n.kind, .string n.data, .slice h.A n.ptrs.length h.a, .int .i64 n.size, .int .i64 n.count, .slice h.B n.items.length h.b] ∧ NdAt w Any m n h := by
  obtain ⟨cs, rfl, hsz⟩ := okWide_struct Try.underlying35 hv
  obtain ⟨fuel, hf⟩ := h
  obtain ⟨n', k, s, c, d, v2, v5, y, z, rfl, hcs, hd, g2, g5⟩ := node_open hf
  obtain ⟨A2, c2, l2, rfl, hn2⟩ := nds_open _ v2 y g2
  obtain ⟨A5, c5, l5, rfl, hn5⟩ := nds_open _ v5 z g5
  have hn : NdAt w Any n' (.mk k d l2 s c l5) ⟨A2, c2, A5, c5⟩ := And.intro hd (And.intro hn2 hn5)
  refine ⟨n', .mk k d l2 s c l5, ⟨A2, c2, A5, c5⟩, ?_, hn⟩
  obtain ⟨l⟩ := cs
  simp [Value.cells] at hcs
  rw [hcs]
  rfl
end
end Go.Proofs.Ytfiiopchfmcjdaa
