/- The specification's draws for the laws of nodes. -/
import Derived.Test.YtfiiopchfmcjdaaDrawAny
import Derived.Test.YtfiiopchfmcjdaaArgB
namespace Go.Proofs.Ytfiiopchfmcjdaa
open Go.RowKit
/-- some node of at most 18 levels, what is within lying in the call's own blocks. -/
def DrawN (w : World) (e : Ending) (w' : World) : Prop := ∃ (n : Nd) (h : Hd), e = .returned (.agg #[.int .i64 n.kind, .string n.data, .slice h.A n.ptrs.length h.a, .int .i64 n.size, .int .i64 n.count, .slice h.B n.items.length h.b]) ∧ NdAt w' (From w.heap.size) 18 n h ∧ totN 18 n ≤ 300000 ∧ Below w.heap.size w w'
theorem code_alloc {w : World} {a : Option Addr} {len : Nat} (h : Code w w.heap.size a len) (o : Obj) : Code (w.alloc o) (w.alloc o).heap.size a len :=
  (h.keeps (R := w.heap.size) (Keeps.of_below ((Below.refl w.heap.size w).alloc (Nat.le_refl _) o)) (Nat.le_refl _) (Nat.le_refl _)).mono (by simp)
theorem draw_fin {w w2 : World} {n : Nd} {h : Hd} {M : Nat} (hz : w2.heap[w.heap.size]? = some (.cells #[.int .i64 0, .string { data := #[] }, .slice none 0 0, .int .i64 0, .int .i64 0, .slice none 0 0] nodeT (0, 0))) (hn : NdAt w2 (From (w.heap.size + 1)) M n h) (hb : Below w.heap.size w w2) :
    ∃ wf, ((((((w2.setCell ⟨w.heap.size, 0, none⟩ (.int .i64 n.kind)).setCell ⟨w.heap.size, 1, none⟩ (.string n.data)).setCell ⟨w.heap.size, 2, none⟩ (.slice h.A n.ptrs.length h.a)).setCell ⟨w.heap.size, 3, none⟩ (.int .i64 n.size)).setCell ⟨w.heap.size, 4, none⟩ (.int .i64 n.count)).setCell ⟨w.heap.size, 5, none⟩ (.slice h.B n.items.length h.b)) = wf ∧ wf.heap[w.heap.size]? = some (.cells #[.int .i64 n.kind, .string n.data, .slice h.A n.ptrs.length h.a, .int .i64 n.size, .int .i64 n.count, .slice h.B n.items.length h.b] nodeT (0, 0)) ∧ NdAt wf (From w.heap.size) M n h ∧ Below w.heap.size w wf := by
  have hu : Upon (w.heap.size + 1) w2 ((((((w2.setCell ⟨w.heap.size, 0, none⟩ (.int .i64 n.kind)).setCell ⟨w.heap.size, 1, none⟩ (.string n.data)).setCell ⟨w.heap.size, 2, none⟩ (.slice h.A n.ptrs.length h.a)).setCell ⟨w.heap.size, 3, none⟩ (.int .i64 n.size)).setCell ⟨w.heap.size, 4, none⟩ (.int .i64 n.count)).setCell ⟨w.heap.size, 5, none⟩ (.slice h.B n.items.length h.b)) :=
    ((((((Upon.refl _ w2).setCell (p := ⟨w.heap.size, 0, none⟩) (by simp) _).setCell (p := ⟨w.heap.size, 1, none⟩) (by simp) _).setCell (p := ⟨w.heap.size, 2, none⟩) (by simp) _).setCell (p := ⟨w.heap.size, 3, none⟩) (by simp) _).setCell (p := ⟨w.heap.size, 4, none⟩) (by simp) _).setCell (p := ⟨w.heap.size, 5, none⟩) (by simp) _
  have hk : ∀ (W : World) (i : Nat) (v : Value), Below w.heap.size w W → Below w.heap.size w (W.setCell ⟨w.heap.size, i, none⟩ v) := fun W i v hW => hW.setCell (p := ⟨w.heap.size, i, none⟩) (Nat.le_refl _) v
  exact ⟨_, rfl, row_setN (row_setN (row_setN (row_setN (row_setN (row_setN hz 0 _) 1 _) 2 _) 3 _) 4 _) 5 _, (hn.upon hu).from_ (by omega), hk _ _ _ (hk _ _ _ (hk _ _ _ (hk _ _ _ (hk _ _ _ (hk _ _ _ hb)))))⟩
end Go.Proofs.Ytfiiopchfmcjdaa
