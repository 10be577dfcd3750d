/- A frame: what lay below a block lies as it lay, but for one block. No Go text. -/
import Derived.WalkKit
import Derived.OwnWalk
import Derived.Deep.QuietTactic
import Derived.BigQuiet
import Derived.Lib.Hide
import Derived.Laws.OwnMore
namespace Go.Proofs.Ytfiiopchfmcjdaa
open Go.RowKit
/-- what lay below block B lies as it lay, but for block b. -/
structure Keeps (B b : Nat) (w w' : World) : Prop where
  os : w'.os = w.os
  tape : w'.tape = w.tape
  output : w'.output = w.output
  size : w.heap.size ≤ w'.heap.size
  block : ∀ k, k < B → k ≠ b → w'.heap[k]? = w.heap[k]?
theorem Keeps.refl (B b : Nat) (w : World) : Keeps B b w w := ⟨rfl, rfl, rfl, Nat.le_refl _, fun _ _ _ => rfl⟩
theorem Keeps.trans {B b : Nat} {a c d : World} (h : Keeps B b a c) (k : Keeps B b c d) : Keeps B b a d :=
  ⟨k.os.trans h.os, k.tape.trans h.tape, k.output.trans h.output, Nat.le_trans h.size k.size, fun x hx hn => (k.block x hx hn).trans (h.block x hx hn)⟩
theorem Keeps.mono {B B' b : Nat} {w w' : World} (h : Keeps B b w w') (h1 : B' ≤ B) : Keeps B' b w w' :=
  ⟨h.os, h.tape, h.output, h.size, fun k hk => h.block k (Nat.lt_of_lt_of_le hk h1)⟩
theorem Keeps.below {B B' b : Nat} {w w' : World} (h : Keeps B b w w') (h1 : B' ≤ B) (h2 : B' ≤ b) : Below B' w w' :=
  ⟨h.os, h.tape, h.output, h.size, fun k hk => h.block k (Nat.lt_of_lt_of_le hk h1) (by omega)⟩
theorem Keeps.of_below {B b : Nat} {w w' : World} (h : Below B w w') : Keeps B b w w' := ⟨h.os, h.tape, h.output, h.size, fun k hk _ => h.block k hk⟩
theorem Keeps.drewN {B b : Nat} {w w' : World} (h : Keeps B b w w') (n : Nat) : Keeps B b w (w'.drewN n) := ⟨h.os, h.tape, h.output, h.size, h.block⟩
theorem Keeps.drew {B b : Nat} {w w' : World} (h : Keeps B b w w') : Keeps B b w w'.drew := ⟨h.os, h.tape, h.output, h.size, h.block⟩
/-- one after the other, the second's bound being where the first ended. -/
theorem Keeps.then {B b : Nat} {a c d : World} (h : Keeps B b a c) (hB : B ≤ c.heap.size) (k : Keeps c.heap.size b c d) : Keeps B b a d := h.trans (k.mono hB)
theorem set_keeps (B b : Nat) (w : World) (i : Nat) (u : Value) : Keeps B b w (w.setCell ⟨b, i, none⟩ u) :=
  ⟨rfl, rfl, rfl, by simp [World.setCell], fun k _ hk => Below.heap_setCell w ⟨b, i, none⟩ u k hk⟩
theorem cell_pair {w : World} {b : Nat} {p v : Value} {T : TypeId} (h : w.heap[b]? = some (.cells #[p, v] T (0, 0))) : w.cell? ⟨b, 0, none⟩ = some p ∧ w.cell? ⟨b, 1, none⟩ = some v := by
  constructor <;> (rw [cell_of_row _ _ _ _ _ _ h]; rfl)
theorem pair_set1 {w : World} {b : Nat} {p v q : Value} {T : TypeId} (h : w.heap[b]? = some (.cells #[p, v] T (0, 0))) : (w.setCell ⟨b, 1, none⟩ q).heap[b]? = some (.cells #[p, q] T (0, 0)) := by
  simp [World.setCell, Array.getElem?_modify, h]
theorem row_free {w : World} {g : Nat} {cs : Array Value} {t : TypeId} (h : w.heap[g]? = some (.cells cs t (0, 0))) (i : Nat) : w.frozen? ⟨g, i, none⟩ = false := by
  simp [World.frozen?, h]
theorem row_lt {w : World} {g : Nat} {o : Obj} (h : w.heap[g]? = some o) : g < w.heap.size := by
  rcases Nat.lt_or_ge g w.heap.size with hlt | hge
  · exact hlt
  · rw [Array.getElem?_eq_none hge] at h; cases h
theorem addr_block (a : Addr) (i : Nat) : (a.add i).block = a.block := by unfold Addr.add; split <;> rfl
theorem keeps_cell {B b : Nat} {w w' : World} (h : Keeps B b w w') (p : Addr) (h1 : p.block < B) (h2 : p.block ≠ b) : w'.cell? p = w.cell? p := by
  have hb := h.block p.block h1 h2
  unfold World.cell?
  rw [hb]
end Go.Proofs.Ytfiiopchfmcjdaa
