/- The program's planner in memory: its eight cells, its map of holes, its two rows. -/
import Derived.Test.YtfgebmmnlneciaaDoorLayB
import Derived.Maps.OwnSet
import Derived.Maps.AppendAt
namespace Go.Proofs.YtfgebmmnlneciaaDoor
open Go.RowKit
open Go.Maps (IsMap has)
theorem scaleLaw : Maps.Keyed Tryd.prog 75 := Maps.int_keyed Tryd.underlying75
theorem zeroInt (w : World) : (zeroValue 3).run Tryd.prog w = .ok (.int .i64 0) w := by kernel_rfl
theorem wf_mk {n : Int} (h0 : -9223372036854775808 ≤ n) (h1 : n ≤ 9223372036854775807) : (Lit.int .i64 n).wf = true := by
  simp [Lit.wf, IntKind.min, IntKind.max, IntKind.bits, IntKind.signed]; omega
theorem scaleKey {n : Int} (h0 : 0 ≤ n) (h1 : n ≤ 100) : keyOf Tryd.prog 75 (.int .i64 n) = some (.int .i64 n) := Maps.keyOf_int_mk Tryd.underlying75 (wf_mk (by omega) (by omega))
def keyI (i : Nat) : Lit := .int .i64 (6 - (i : Int))
theorem keyI_ne {i j : Nat} (h : i ≠ j) : keyI i ≠ keyI j := by
  intro e
  unfold keyI at e
  injection e with e1 e2
  omega
theorem keyI_lit (i : Nat) : WideAt.IsKeyLit (keyI i) := by unfold keyI; trivial
/-- the map's datum says where the holes are. -/
def HoleD (D : DataW Unit) (h : Nat → Nat) : Prop :=
  IsMap D ∧ ∀ i, 1 ≤ i → i ≤ 6 → (h i = 0 → has D (keyI i) = false) ∧ (h i ≠ 0 → has D (keyI i) = true ∧ ∀ z, D.atKey (keyI i) z = .lit (.int .i64 (h i)))
theorem holeD_empty : HoleD (.map []) (fun _ => 0) := ⟨Maps.isMap_empty, fun i _ _ => ⟨fun _ => rfl, fun h => absurd rfl h⟩⟩
theorem HoleD.put {D : DataW Unit} {h : Nat → Nat} (hd : HoleD D h) (k v : Nat) (hv : v ≠ 0) : HoleD (D.put (keyI k) (.lit (.int .i64 v))) (upd h k v) := by
  refine ⟨hd.1.put _ _, fun i hi hi6 => ?_⟩
  by_cases hik : i = k
  · subst hik
    rw [upd_same]
    exact ⟨fun e => absurd e hv, fun _ => ⟨Maps.has_put_same hd.1 (keyI_lit i) _, fun z => Maps.atKey_put_same hd.1 (keyI_lit i) _ z⟩⟩
  · rw [upd_other _ _ _ _ hik, Maps.has_put_other (keyI_ne hik)]
    exact ⟨(hd.2 i hi hi6).1, fun e => ⟨((hd.2 i hi hi6).2 e).1, fun z => by rw [Maps.atKey_put_other (keyI_ne hik)]; exact ((hd.2 i hi hi6).2 e).2 z⟩⟩
theorem HoleD.del {D : DataW Unit} {h : Nat → Nat} (hd : HoleD D h) (k : Nat) : HoleD (D.del (keyI k)) (upd h k 0) := by
  refine ⟨hd.1.del _, fun i hi hi6 => ?_⟩
  by_cases hik : i = k
  · subst hik
    rw [upd_same]
    exact ⟨fun _ => Maps.has_del_same, fun e => absurd rfl e⟩
  · rw [upd_other _ _ _ _ hik, Maps.has_del_other (keyI_ne hik)]
    exact ⟨(hd.2 i hi hi6).1, fun e => ⟨((hd.2 i hi hi6).2 e).1, fun z => by rw [Maps.atKey_del_other (keyI_ne hik)]; exact ((hd.2 i hi hi6).2 e).2 z⟩⟩
def slotCells (l : List Nat) : List Value := l.map fun a : Nat => Value.int .i64 (a : Int)
def roomCells : List (Nat × Nat) → List Value
  | [] => []
  | r :: t => .int .i64 (6 - (r.1 : Int)) :: .int .i64 (r.2 : Int) :: roomCells t
theorem roomCells_app : ∀ (l m : List (Nat × Nat)), roomCells (l ++ m) = roomCells l ++ roomCells m
  | [], _ => rfl
  | r :: t, m => by rw [List.cons_append, roomCells, roomCells_app t m]; rfl
abbrev planT : TypeId := 59
abbrev slotT : TypeId := 45
abbrev roomT : TypeId := 87
def planCells (s : PS) (v1 v2 : Value) (bm : Nat) : Array Value := #[.int .i64 (s.ls.words : Int), .int .i64 (s.ptrs : Int), v1, .int .i64 s.tag, .map (some bm), .int .i64 (s.many : Int), v2, .int .i64 s.point]
/-- the planner in block g, its map in bm. -/
structure Pl (w : World) (R g bm : Nat) (v1 v2 : Value) (s : PS) (slots : List Nat) (N : Nat) : Prop where
  row : w.heap[g]? = some (.cells (planCells s v1 v2 bm) planT (0, 0))
  rg : R ≤ g
  rb : R ≤ bm
  slots : w.ownsRow R slotT 1 v1 slots.length (slotCells slots)
  shared : w.ownsRow R roomT 2 v2 s.shared.length (roomCells s.shared)
  holes : ∃ n D, n ≤ N ∧ w.ownsMap (H := Unit) Tryd.prog 75 (plainElem Tryd.prog 3) bm n D ∧ HoleD D s.ls.hole
theorem own_ne_blk {w : World} {base g n size : Nat} {e t : TypeId} {v : Value} {xs : List Value} {cs : Array Value} (h : w.ownsRow base e size v n xs) (hb : w.heap[g]? = some (.cells cs t (0, 0))) (hne : e ≠ t) : v.ownBlock ≠ some g := by
  rcases h.2 with ⟨rfl, _⟩ | ⟨g', cap, cur, rfl, _, hg, _⟩
  · simp [Value.ownBlock]
  · intro he
    have : g' = g := by simpa [Value.ownBlock] using he
    subst this
    rw [hb] at hg
    injection hg with hg
    injection hg with _ ht
    exact hne ht.symm
theorem own_ne_map {w : World} {base g n size : Nat} {e : TypeId} {v : Value} {xs : List Value} {es : Array MapEntry} {c : Nat} (h : w.ownsRow base e size v n xs) (hb : w.heap[g]? = some (.map es c)) : v.ownBlock ≠ some g := by
  rcases h.2 with ⟨rfl, _⟩ | ⟨g', cap, cur, rfl, _, hg, _⟩
  · simp [Value.ownBlock]
  · intro he
    have : g' = g := by simpa [Value.ownBlock] using he
    subst this
    rw [hb] at hg
    injection hg with hg
    cases hg
theorem Pl.gm {w : World} {R g bm : Nat} {v1 v2 : Value} {s : PS} {sl : List Nat} {N : Nat} (h : Pl w R g bm v1 v2 s sl N) : g ≠ bm := by
  rintro rfl
  obtain ⟨n, D, _, ⟨es, c, hb, _⟩, _⟩ := h.holes
  rw [h.row] at hb
  injection hb with hb
  cases hb
theorem Pl.lt {w : World} {R g bm : Nat} {v1 v2 : Value} {s : PS} {sl : List Nat} {N : Nat} (h : Pl w R g bm v1 v2 s sl N) : g < w.heap.size := row_lt h.row
theorem Pl.mono {w : World} {R g bm : Nat} {v1 v2 : Value} {s : PS} {sl : List Nat} {N M : Nat} (h : Pl w R g bm v1 v2 s sl N) (hm : N ≤ M) : Pl w R g bm v1 v2 s sl M := by
  obtain ⟨n, D, hn, r⟩ := h.holes
  exact ⟨h.row, h.rg, h.rb, h.slots, h.shared, n, D, Nat.le_trans hn hm, r⟩
/-- new blocks, draws: all stays. -/
theorem Pl.below {w w' : World} {R g bm : Nat} {v1 v2 : Value} {s : PS} {sl : List Nat} {N : Nat} (h : Pl w R g bm v1 v2 s sl N) (hb : Below w.heap.size w w') : Pl w' R g bm v1 v2 s sl N := by
  have hg : w.grownBy w' none := ⟨hb.os, hb.tape, hb.output, hb.size, fun k hk _ => hb.block k hk⟩
  obtain ⟨n, D, hn, hm, hd⟩ := h.holes
  exact ⟨(hb.block g h.lt).trans h.row, h.rg, h.rb, h.slots.kept hg (by cases hv : v1.ownBlock <;> simp), h.shared.kept hg (by cases hv : v2.ownBlock <;> simp), n, D, hn, hm.kept hg (by simp), hd⟩
/-- the map turned. -/
theorem Pl.turn {w w' : World} {R g bm : Nat} {v1 v2 : Value} {s : PS} {sl : List Nat} {N M n : Nat} {D : DataW Unit} {h' : Nat → Nat} (h : Pl w R g bm v1 v2 s sl N) (hg : w.grownBy w' (some bm)) (hm : w'.ownsMap (H := Unit) Tryd.prog 75 (plainElem Tryd.prog 3) bm n D) (hn : n ≤ M) (hd : HoleD D h') :
    Pl w' R g bm v1 v2 { s with ls := ⟨s.ls.words, h'⟩ } sl M := by
  obtain ⟨n0, D0, _, ⟨es, c, hb, _⟩, _⟩ := h.holes
  exact ⟨(hg.block g h.lt (fun e => h.gm (by injection e))).trans h.row, h.rg, h.rb, h.slots.kept hg (.inr (own_ne_map h.slots hb)), h.shared.kept hg (.inr (own_ne_map h.shared hb)), n, D, hn, hm, hd⟩
theorem grown_set (w : World) (g i : Nat) (u : Value) : w.grownBy (w.setCell ⟨g, i, none⟩ u) (some g) :=
  ⟨rfl, rfl, rfl, by simp [World.setCell], fun k _ hk => Below.heap_setCell w ⟨g, i, none⟩ u k (fun e => hk (by rw [e]))⟩
theorem row_set {w : World} {g : Nat} {cs : Array Value} {T : TypeId} (h : w.heap[g]? = some (.cells cs T (0, 0))) (i : Nat) (u : Value) : (w.setCell ⟨g, i, none⟩ u).heap[g]? = some (.cells (cs.setIfInBounds i u) T (0, 0)) := by
  simp [World.setCell, Array.getElem?_modify, h]
/-- a cell of the planner written, no row of it. -/
theorem Pl.set_ {w : World} {R g bm : Nat} {v1 v2 : Value} {s : PS} {sl : List Nat} {N : Nat} (h : Pl w R g bm v1 v2 s sl N) (i : Nat) (u : Value) (s' : PS) (hs : (planCells s v1 v2 bm).setIfInBounds i u = planCells s' v1 v2 bm) (hl : s'.ls.hole = s.ls.hole) (hsh : s'.shared = s.shared) :
    Pl (w.setCell ⟨g, i, none⟩ u) R g bm v1 v2 s' sl N := by
  have hg := grown_set w g i u
  obtain ⟨n, D, hn, hm, hd⟩ := h.holes
  refine ⟨?_, h.rg, h.rb, h.slots.kept hg (.inr (own_ne_blk h.slots h.row (by decide))), ?_, n, D, hn, hm.kept hg (fun e => h.gm (by injection e with e; exact e.symm)), by rw [hl]; exact hd⟩
  · rw [row_set h.row, hs]
  · rw [hsh]; exact h.shared.kept hg (.inr (own_ne_blk h.shared h.row (by decide)))
theorem Pl.cells {w : World} {R g bm : Nat} {v1 v2 : Value} {s : PS} {sl : List Nat} {N : Nat} (h : Pl w R g bm v1 v2 s sl N) :
    w.cell? ⟨g, 0, none⟩ = some (.int .i64 (s.ls.words : Int)) ∧ w.cell? ⟨g, 1, none⟩ = some (.int .i64 (s.ptrs : Int)) ∧ w.cell? ⟨g, 2, none⟩ = some v1 ∧ w.cell? ⟨g, 3, none⟩ = some (.int .i64 s.tag) ∧ w.cell? ⟨g, 4, none⟩ = some (.map (some bm)) ∧ w.cell? ⟨g, 5, none⟩ = some (.int .i64 (s.many : Int)) ∧ w.cell? ⟨g, 6, none⟩ = some v2 ∧ w.cell? ⟨g, 7, none⟩ = some (.int .i64 s.point) := by
  refine ⟨?_, ?_, ?_, ?_, ?_, ?_, ?_, ?_⟩ <;> (rw [cell_of_row _ _ _ _ _ _ h.row]; rfl)
theorem Pl.set_below {w w0 : World} {R g bm : Nat} {v1 v2 : Value} {s : PS} {sl : List Nat} {N : Nat} (h : Pl w R g bm v1 v2 s sl N) (hb : Below R w0 w) (i : Nat) (u : Value) : Below R w0 (w.setCell ⟨g, i, none⟩ u) := hb.setCell (p := ⟨g, i, none⟩) h.rg u
theorem turn_below {w w' : World} {R bm : Nat} (hg : w.grownBy w' (some bm)) (h : R ≤ bm) (hR : R ≤ w.heap.size) : Below R w w' :=
  ⟨hg.os, hg.tape, hg.output, hg.size, fun k hk => hg.block k (by omega) (fun e => by injection e with e; omega)⟩
theorem Pl.rs {w : World} {R g bm : Nat} {v1 v2 : Value} {s : PS} {sl : List Nat} {N : Nat} (h : Pl w R g bm v1 v2 s sl N) : R ≤ w.heap.size := Nat.le_of_lt (Nat.lt_of_le_of_lt h.rg h.lt)
end Go.Proofs.YtfgebmmnlneciaaDoor
