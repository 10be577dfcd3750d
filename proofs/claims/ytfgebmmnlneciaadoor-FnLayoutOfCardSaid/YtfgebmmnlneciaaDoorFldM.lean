/- Fields in a row of the call's own. -/
import Derived.Test.YtfgebmmnlneciaaDoorLayA
import Derived.Laws.OwnMore
namespace Go.Proofs.YtfgebmmnlneciaaDoor
open Go.RowKit
abbrev fieldT : TypeId := 43
def fldCells : List Fld → List Value
  | [] => []
  | f :: t => .int .i64 f.size :: .bool f.choice :: .int .i64 f.els :: fldCells t
theorem fldCells_app : ∀ (l m : List Fld), fldCells (l ++ m) = fldCells l ++ fldCells m
  | [], _ => rfl
  | r :: t, m => by rw [List.cons_append, fldCells, fldCells_app t m]; rfl
theorem fldCells_at : ∀ (l : List Fld) (k : Nat) (h : k < l.length), (fldCells l)[k * 3]? = some (.int .i64 (l[k]).size) ∧ (fldCells l)[k * 3 + 1]? = some (.bool (l[k]).choice) ∧ (fldCells l)[k * 3 + 2]? = some (.int .i64 (l[k]).els)
  | [], k, h => absurd h (Nat.not_lt_zero _)
  | r :: t, 0, _ => ⟨rfl, rfl, rfl⟩
  | r :: t, k + 1, h => by
    have := fldCells_at t k (by simpa using h)
    rw [show (k + 1) * 3 = k * 3 + 1 + 1 + 1 by omega]
    exact this
theorem add_off2 (x : Addr) (n m : Nat) (hm : 0 < m) : (⟨(x.add n).block, (x.add n).off + m, none⟩ : Addr) = x.add (n + m) := by
  by_cases h : n = 0
  · subst h
    simp only [Addr.add, if_true, Nat.zero_add]
    rw [if_neg (by omega)]
  · simp only [Addr.add, h, if_false]
    rw [if_neg (by omega)]
    simp <;> omega
theorem flds_of_own {w : World} {B : Nat} {v : Value} {l : List Fld} (h : w.ownsRow B fieldT 3 v l.length (fldCells l)) : ∃ A cap, v = .slice A l.length cap ∧ Flds w A l := by
  rcases h.2 with ⟨rfl, h0⟩ | ⟨g, cap, cur, rfl, _, hg, _⟩
  · obtain rfl : l = [] := List.eq_nil_of_length_eq_zero h0
    exact ⟨none, 0, rfl, .inl rfl⟩
  · refine ⟨_, cap, rfl, .inr ⟨⟨g, 0, none⟩, rfl, row_lt hg, fun k f hk => ?_⟩⟩
    have hlt : k < l.length := by
      rcases Nat.lt_or_ge k l.length with h' | h'
      · exact h'
      · rw [List.getElem?_eq_none h'] at hk; cases hk
    obtain rfl : l[k] = f := by rw [List.getElem?_eq_getElem hlt] at hk; injection hk
    obtain ⟨h0, h1, h2⟩ := fldCells_at l k hlt
    exact ⟨h.cells (g := g) rfl _ _ h0, by rw [add_off2 _ _ 1 (by decide)]; exact h.cells (g := g) rfl _ _ h1, by rw [add_off2 _ _ 2 (by decide)]; exact h.cells (g := g) rfl _ _ h2⟩
theorem add_zero_at (g j : Nat) : (⟨g, 0, none⟩ : Addr).add j = ⟨g, j, none⟩ := by
  unfold Addr.add
  split
  · rename_i h; rw [h]
  · simp
theorem cells_three (w : World) (a b c : Value) (t : TypeId) : ∀ j u, [a, b, c][j]? = some u → (w.alloc (.cells #[a, b, c] t)).cell? ((⟨w.heap.size, 0, none⟩ : Addr).add j) = some u := by
  intro j u hj
  rw [add_zero_at, cell_of_row _ _ _ _ _ (0, 0) (heap_alloc_new w _)]
  match j, hj with
  | 0, hj => simpa using hj
  | 1, hj => simpa using hj
  | 2, hj => simpa using hj
theorem cells_three_at (w : World) (g : Nat) (hg : g = w.heap.size) (a b c : Value) (t : TypeId) : ∀ j u, [a, b, c][j]? = some u → (w.alloc (.cells #[a, b, c] t)).cell? ((⟨g, 0, none⟩ : Addr).add j) = some u := by subst hg; exact cells_three w a b c t
theorem infoFld : (Tryd.prog.info? fieldT).map (fun i => (i.zero, i.size, i.bytes)) = some (some (.agg #[.int .i64 0, .bool false, .int .i64 0]), 3, 24) := by kernel_rfl
theorem own_slice3 {w : World} {B e n z : Nat} {v : Value} {xs : List Value} (h : w.ownsRow B e z v n xs) : ∃ A cap, v = .slice A n cap := by
  rcases h.2 with ⟨rfl, rfl⟩ | ⟨g, cap, _, rfl, _⟩
  · exact ⟨none, 0, rfl⟩
  · exact ⟨_, cap, rfl⟩
theorem fld_app {w : World} {B : Nat} {v : Value} {l : List Fld} {z el : Int} {c : Bool} (h : w.ownsRow B fieldT 3 v (l.length + 1) (fldCells l ++ [.int .i64 z, .bool c, .int .i64 el])) : w.ownsRow B fieldT 3 v (l ++ [Fld.mk z c el]).length (fldCells (l ++ [Fld.mk z c el])) := by
  rw [fldCells_app, List.length_append]; exact h
end Go.Proofs.YtfgebmmnlneciaaDoor
