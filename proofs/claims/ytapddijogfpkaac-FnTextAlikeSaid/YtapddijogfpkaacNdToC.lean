/- The laws' own copies of nodes: in plain blocks. -/
import Derived.Test.YtapddijogfpkaacNdTo
namespace Go.Proofs.Ytapddijogfpkaac
open Go.RowKit
/-- all blocks from B on are plain ones, of which nothing is frozen. -/
def Clean (w : World) (k : Nat) : Prop := ∃ cs T, w.heap[k]? = some (.cells cs T (0, 0))
def CleanFrom (B : Nat) (w : World) : Prop := ∀ k, B ≤ k → k < w.heap.size → Clean w k
theorem CleanFrom.refl (w : World) : CleanFrom w.heap.size w := fun k h1 h2 => by omega
theorem CleanFrom.alloc {B : Nat} {w : World} (h : CleanFrom B w) (cs : Array Value) (T : TypeId) : CleanFrom B (w.alloc (.cells cs T)) := fun k h1 h2 => by
  have hs : (w.alloc (.cells cs T)).heap.size = w.heap.size + 1 := by simp
  rcases Nat.lt_or_ge k w.heap.size with h3 | h3
  · obtain ⟨c, t, h4⟩ := h k h1 h3
    exact ⟨c, t, (Below.heap_alloc w _ k h3).trans h4⟩
  · obtain rfl : k = w.heap.size := by omega
    exact ⟨cs, T, heap_alloc_new w _⟩
theorem CleanFrom.setCell {B : Nat} {w : World} (h : CleanFrom B w) (p : Addr) (v : Value) : CleanFrom B (w.setCell p v) := fun k h1 h2 => by
  obtain ⟨c, t, h4⟩ := h k h1 (by simpa [World.setCell] using h2)
  by_cases hk : k = p.block
  · subst hk
    obtain ⟨b, o, s⟩ := p
    cases s with
    | none => exact ⟨c.setIfInBounds o v, t, by simp [World.setCell, Array.getElem?_modify, h4]⟩
    | some s => exact ⟨c, t, by simp [World.setCell, Array.getElem?_modify, h4]⟩
  · exact ⟨c, t, (Below.heap_setCell w p v k hk).trans h4⟩
theorem CleanFrom.call {B : Nat} {w w' : World} (h : CleanFrom B w) (hb : Below w.heap.size w w') (hc : CleanFrom w.heap.size w') : CleanFrom B w' := fun k h1 h2 => by
  rcases Nat.lt_or_ge k w.heap.size with h3 | h3
  · obtain ⟨c, t, h4⟩ := h k h1 h3
    exact ⟨c, t, (hb.block k h3).trans h4⟩
  · exact hc k h3 h2
theorem CleanFrom.mono {B B' : Nat} {w : World} (h : CleanFrom B w) (hB : B ≤ B') : CleanFrom B' w := fun k h1 h2 => h k (Nat.le_trans hB h1) h2
def NewNC (m : Nat) (n : Nd) (w : World) (e : Ending) (w' : World) : Prop := ∃ h : Hd, e = .returned (.agg #[.int .i64 n.kind, .string n.data, .slice h.A n.ptrs.length h.a, .int .i64 n.size, .int .i64 n.count, .slice h.B n.items.length h.b]) ∧ NdAt w' (From w.heap.size) m n h ∧ Below w.heap.size w w' ∧ CleanFrom w.heap.size w'
def NewSC (m : Nat) (l : List Nd) (w : World) (e : Ending) (w' : World) : Prop := ∃ (A : Option Addr) (c : Nat), e = .returned (.slice A l.length c) ∧ NdsAt w' (From w.heap.size) m A l ∧ Below w.heap.size w w' ∧ CleanFrom w.heap.size w'
end Go.Proofs.Ytapddijogfpkaac
