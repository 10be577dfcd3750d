/- The specification's drawer of nodes: lists of bits and bytes. -/
import Derived.Test.YtapddijogfpkaacNdCut
import Derived.Test.YtapddijogfpkaacDrawW
import Derived.Test.YtapddijogfpkaacDrawOne
import Derived.Test.YtapddijogfpkaacNdTo
namespace Go.Proofs.Ytapddijogfpkaac
open Go.RowKit
theorem picked_storeN {w w1 : World} {R n b : Nat} (h : Picked w R n w1) (hR : R < w.heap.size) (hb : w.heap.size ≤ b) (i : Nat) (v : Value) : Picked w R n (w1.setCell ⟨b, i, none⟩ v) := by
  obtain ⟨⟨a, l, c, p, hp, hr, hc⟩, hk⟩ := h
  have hs := set_keeps w1.heap.size b w1 i v
  refine ⟨⟨a, l, c, p, hp, (hs.block R (row_lt hr) (by omega)).trans hr, hc.keeps hs (Nat.le_of_lt (row_lt hr)) (by omega)⟩, ?_⟩
  exact ⟨hs.os.trans hk.os, hs.tape.trans hk.tape, hs.output.trans hk.output, Nat.le_trans hk.size hs.size, fun k hk1 hk2 => (hs.block k (Nat.lt_of_lt_of_le hk1 hk.size) (by omega)).trans (hk.block k hk1 hk2)⟩
theorem store6 {w w1 : World} {R n b : Nat} {T : TypeId} {a0 a1 a2 a3 a4 a5 : Value} (h : w1.heap[b]? = some (.cells #[a0, a1, a2, a3, a4, a5] T (0, 0))) (hp : Picked w R n w1) (hR : R < w.heap.size) (hb : w.heap.size ≤ b) (v0 v1 v2 v3 v4 v5 : Value) :
    ∃ wf, ((((((w1.setCell ⟨b, 0, none⟩ v0).setCell ⟨b, 1, none⟩ v1).setCell ⟨b, 2, none⟩ v2).setCell ⟨b, 3, none⟩ v3).setCell ⟨b, 4, none⟩ v4).setCell ⟨b, 5, none⟩ v5) = wf ∧ wf.heap[b]? = some (.cells #[v0, v1, v2, v3, v4, v5] T (0, 0)) ∧ Picked w R n wf ∧ Upon (b + 1) w1 wf :=
  ⟨_, rfl, row_setN (row_setN (row_setN (row_setN (row_setN (row_setN h 0 v0) 1 v1) 2 v2) 3 v3) 4 v4) 5 v5, picked_storeN (picked_storeN (picked_storeN (picked_storeN (picked_storeN (picked_storeN hp hR hb 0 v0) hR hb 1 v1) hR hb 2 v2) hR hb 3 v3) hR hb 4 v4) hR hb 5 v5,
    ((((((Upon.refl (b + 1) w1).setCell (p := ⟨b, 0, none⟩) (by simp) v0).setCell (p := ⟨b, 1, none⟩) (by simp) v1).setCell (p := ⟨b, 2, none⟩) (by simp) v2).setCell (p := ⟨b, 3, none⟩) (by simp) v3).setCell (p := ⟨b, 4, none⟩) (by simp) v4).setCell (p := ⟨b, 5, none⟩) (by simp) v5⟩
theorem pick_rowN {w w1 : World} {R n b : Nat} {o : Obj} (h : w.heap[b]? = some o) (hp : Picked w R n w1) (hne : b ≠ R) : w1.heap[b]? = some o := (hp.2.block b (row_lt h) hne).trans h
/-- how great a drawn node is, and its own bytes. -/
def SB (T : Nat) (n : Nd) : Prop := (T ≤ 259259 → n.data.size ≤ 1100) ∧ (n.kind = 2 → n.data.size ≤ 1592)
def TB (M : Nat) (n : Nd) (T : Nat) : Prop := totN M n ≤ T ∧ SB T n
theorem SB.mono {T T' : Nat} {n : Nd} (h : SB T n) (hT : T ≤ T') : SB T' n := ⟨fun h' => h.1 (Nat.le_trans hT h'), h.2⟩
theorem SB.small {T : Nat} {n : Nd} (h : n.data.size ≤ 1100) : SB T n := ⟨fun _ => h, fun _ => Nat.le_trans h (by decide)⟩
/-- some node, of so many levels, so great at most, the drawer gone on. -/
def NdP (M T : Nat) (R k : Nat) (w : World) (e : Ending) (w' : World) : Prop := ∃ (n : Nd) (h : Hd), e = .returned (.agg #[.int .i64 n.kind, .string n.data, .slice h.A n.ptrs.length h.a, .int .i64 n.size, .int .i64 n.count, .slice h.B n.items.length h.b]) ∧ NdAt w' (From w.heap.size) M n h ∧ TB M n T ∧ Picked w R k w'
end Go.Proofs.Ytapddijogfpkaac
