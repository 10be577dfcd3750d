/- Plain blocks, of which nothing is frozen. No Go text. -/
import Derived.Test.YtfiiopchfmcjdaaNdToC
import Derived.Test.YtfiiopchfmcjdaaMath2
namespace Go.Proofs.Ytfiiopchfmcjdaa
open Go.RowKit
/-- plain blocks from B on. -/
def FromC (w : World) (B : Nat) : Nat → Prop := fun k => B ≤ k ∧ Clean w k
theorem clean_of {w w' : World} {k : Nat} (h : Clean w k) (he : w'.heap[k]? = w.heap[k]?) : Clean w' k := by
  obtain ⟨c, t, hk⟩ := h
  exact ⟨c, t, he.trans hk⟩
theorem clean_low {w w' : World} {k : Nat} (h : Clean w k) (hb : Below w.heap.size w w') : Clean w' k := by
  obtain ⟨c, t, hk⟩ := h
  exact ⟨c, t, (hb.block k (heap_lt hk)).trans hk⟩
theorem clean_set {w : World} {k : Nat} (h : Clean w k) (p : Addr) (v : Value) : Clean (w.setCell p v) k := by
  obtain ⟨c, t, h4⟩ := h
  by_cases hk : k = p.block
  · subst hk
    obtain ⟨b, o, s⟩ := p
    cases s with
    | none => exact ⟨c.setIfInBounds o v, t, by simp [World.setCell, Array.getElem?_modify, h4]⟩
    | some s => exact ⟨c, t, by simp [World.setCell, Array.getElem?_modify, h4]⟩
  · exact ⟨c, t, (Below.heap_setCell w p v k hk).trans h4⟩
theorem clean_size {w : World} {k : Nat} (h : Clean w k) : k < w.heap.size := by
  obtain ⟨c, t, hk⟩ := h
  exact heap_lt hk
theorem NdAt.belowC {w w' : World} {B m : Nat} {n : Nd} {h : Hd} (hn : NdAt w (FromC w B) m n h) (hb : Below w.heap.size w w') : NdAt w' (FromC w' B) m n h := (hn.below hb).weak (fun _ hk => ⟨hk.1, clean_low hk.2 hb⟩)
theorem NdsAt.belowC {w w' : World} {B m : Nat} {A : Option Addr} {l : List Nd} (hn : NdsAt w (FromC w B) m A l) (hb : Below w.heap.size w w') : NdsAt w' (FromC w' B) m A l := (hn.below hb).weak (fun _ hk => ⟨hk.1, clean_low hk.2 hb⟩)
theorem NdsAt.fromC {w : World} {B B' m : Nat} {A : Option Addr} {l : List Nd} (h : NdsAt w (FromC w B) m A l) (hB : B' ≤ B) : NdsAt w (FromC w B') m A l := h.weak (fun _ hk => ⟨Nat.le_trans hB hk.1, hk.2⟩)
theorem NdAt.fromC {w : World} {B B' m : Nat} {n : Nd} {h : Hd} (hn : NdAt w (FromC w B) m n h) (hB : B' ≤ B) : NdAt w (FromC w B') m n h := hn.weak (fun _ hk => ⟨Nat.le_trans hB hk.1, hk.2⟩)
theorem NdsAt.uponC {w w' : World} {B m : Nat} {A : Option Addr} {l : List Nd} (h : NdsAt w (FromC w B) m A l) (hu : Upon B w w') : NdsAt w' (FromC w' B) m A l :=
  (NdsAt.map (fun _ h => h) (fun _p _ _ hs hc => hc.block (hu.block _ hs.1 hc.lt)) _ _ _ h).weak (fun k hk => ⟨hk.1, clean_of hk.2 (hu.block k hk.1 (clean_size hk.2))⟩)
theorem NdAt.uponC {w w' : World} {B m : Nat} {n : Nd} {h : Hd} (hn : NdAt w (FromC w B) m n h) (hu : Upon B w w') : NdAt w' (FromC w' B) m n h := ⟨hn.1, hn.2.1.uponC hu, hn.2.2.uponC hu⟩
theorem NdAt.plain {w : World} {B m : Nat} {n : Nd} {h : Hd} (hn : NdAt w (FromC w B) m n h) : NdAt w (From B) m n h := hn.weak (fun _ hk => hk.1)
theorem NdAt.cleanC {w : World} {B m : Nat} {n : Nd} {h : Hd} (hn : NdAt w (FromC w B) m n h) : NdAt w (Clean w) m n h := hn.weak (fun _ hk => hk.2)
/-- a row of the call's own that holds nodes. -/
theorem nds_of_ownC {w : World} {R T m : Nat} {v : Value} {q : List (Nd × Hd)} (h : w.ownsRow R T 6 v q.length (rowOf q)) (hq : q.length ≤ maxLen) (hr : ∀ r ∈ q, NdAt w (FromC w R) m r.1 r.2) : ∃ A cap, v = .slice A q.length cap ∧ NdsAt w (FromC w R) (m + 1) A (q.map (·.1)) := by
  rcases h.2 with ⟨rfl, h0⟩ | ⟨g, cap, cur, rfl, hR, hg, _⟩
  · obtain rfl : q = [] := List.eq_nil_of_length_eq_zero h0
    exact ⟨none, 0, rfl, NdsAt.nil _ _ _ _⟩
  · exact ⟨_, cap, rfl, by simpa using hq, q, rfl, .inr ⟨_, rfl, ⟨hR, _, _, hg⟩, at_cells (fun j u hj => h.cells (g := g) rfl j u hj)⟩, hr⟩
end Go.Proofs.Ytfiiopchfmcjdaa
