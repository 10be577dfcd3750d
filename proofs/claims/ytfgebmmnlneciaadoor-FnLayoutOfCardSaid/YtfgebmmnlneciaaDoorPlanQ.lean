/- The program's room that choices share. -/
import Derived.Test.YtfgebmmnlneciaaDoorPlanP
import Derived.Test.YtfgebmmnlneciaaDoorMath2
import Derived.StillTailTactics
namespace Go.Proofs.YtfgebmmnlneciaaDoor
open Go.RowKit
/-- a row of pairs, its cells as a walk reads them. -/
structure PairAt (w : World) (p : Addr) (a b : Int) : Prop where
  c0 : w.cell? p = some (.int .i64 a)
  c1 : w.cell? ⟨p.block, p.off + 1, none⟩ = some (.int .i64 b)
theorem roomCells_at : ∀ (l : List (Nat × Nat)) (k : Nat) (h : k < l.length), (roomCells l)[k * 2]? = some (.int .i64 (6 - ((l[k]).1 : Int))) ∧ (roomCells l)[k * 2 + 1]? = some (.int .i64 ((l[k]).2 : Int))
  | [], k, h => absurd h (Nat.not_lt_zero _)
  | r :: t, 0, _ => ⟨rfl, rfl⟩
  | r :: t, k + 1, h => by
    have := roomCells_at t k (by simpa using h)
    rw [show (k + 1) * 2 = k * 2 + 1 + 1 by omega]
    exact this
theorem roomCells_length : ∀ l : List (Nat × Nat), (roomCells l).length = l.length * 2
  | [] => rfl
  | r :: t => by simp only [roomCells, List.length_cons, roomCells_length t]; omega
theorem add_off (x : Addr) (n : Nat) : (⟨(x.add n).block, (x.add n).off + 1, none⟩ : Addr) = x.add (n + 1) := by
  by_cases h : n = 0
  · subst h; simp [Addr.add]
  · simp [Addr.add, h]; omega
theorem shared_at {w : World} {R : Nat} {v : Value} {l : List (Nat × Nat)} (h : w.ownsRow R roomT 2 v l.length (roomCells l)) {k : Nat} (hk : k < l.length) :
    ∃ x cap, v = .slice (some x) l.length cap ∧ PairAt w (x.add (k * 2)) (6 - ((l[k]).1 : Int)) ((l[k]).2 : Int) := by
  obtain ⟨h1, h2⟩ := roomCells_at l k hk
  rcases h.2 with ⟨rfl, h0⟩ | ⟨g, cap, cur, rfl, _, hg, _⟩
  · omega
  · refine ⟨_, cap, rfl, ?_, ?_⟩
    · exact h.cells (g := g) rfl (k * 2) _ h1
    · rw [add_off]; exact h.cells (g := g) rfl (k * 2 + 1) _ h2
theorem infoRoom : (Tryd.prog.info? roomT).map (fun i => (i.zero, i.size, i.bytes)) = some (some (.agg #[.int .i64 0, .int .i64 0]), 2, 16) := by kernel_rfl
theorem share_hit {s : PS} {kd k : Nat} (hk : k < s.shared.length) (hn : ∀ j (hj : j < k), kd < (s.shared[j]'(Nat.lt_trans hj hk)).1) (hle : (s.shared[k]).1 ≤ kd) : shareF kd s = ((s.shared[k]).2 * 2 ^ (kd - (s.shared[k]).1), s) := by
  have hf : s.shared.find? (fun r => r.1 ≤ kd) = some s.shared[k] := by
    rw [List.find?_eq_some_iff_getElem]
    refine ⟨by simpa using hle, k, hk, rfl, fun j hj => ?_⟩
    have := hn j hj
    simp; omega
  unfold shareF
  rw [hf]
theorem share_miss {s : PS} {kd : Nat} (hn : ∀ r ∈ s.shared, kd < r.1) : shareF kd s = ((roomF kd s.ls).1, { s with ls := (roomF kd s.ls).2, shared := s.shared ++ [(kd, (roomF kd s.ls).1)] }) := by
  have hf : s.shared.find? (fun r => r.1 ≤ kd) = none := by
    rw [List.find?_eq_none]
    intro r hr
    have := hn r hr
    simp; omega
  unfold shareF
  rw [hf]
theorem own_slice2 {w : World} {B e n z : Nat} {v : Value} {xs : List Value} (h : w.ownsRow B e z v n xs) : ∃ A cap, v = .slice A n cap := by
  rcases h.2 with ⟨rfl, rfl⟩ | ⟨g, cap, _, rfl, _⟩
  · exact ⟨none, 0, rfl⟩
  · exact ⟨_, cap, rfl⟩
theorem own_not_block {w : World} {base e z n x : Nat} {v : Value} {xs : List Value} {e' z' n' : Nat} {v' : Value} {xs' : List Value} {base' : Nat} (h : w.ownsRow base e z v n xs) (h' : w.ownsRow base' e' z' v' n' xs') (hne : e ≠ e') (hx : v'.ownBlock = some x) : v.ownBlock ≠ some x := by
  rcases h'.2 with ⟨rfl, _⟩ | ⟨g', cap, cur, rfl, _, hg, _⟩
  · simp [Value.ownBlock] at hx
  · have : g' = x := by simpa [Value.ownBlock] using hx
    subst this
    exact own_ne_blk h hg hne
/-- a row of the planner was appended to: its block stays. -/
theorem Pl.grown_row {w w6 : World} {R g bm : Nat} {v1 v2 v : Value} {s : PS} {sl : List Nat} {N : Nat} {o : Obj} {e z n : Nat} {xs : List Value} (h : Pl w R g bm v1 v2 s sl N) (hv : w.ownsRow R e z v n xs) (hne : e ≠ planT) (hg : (w.alloc o).grownBy w6 v.ownBlock) :
    w6.heap[g]? = some (.cells (planCells s v1 v2 bm) planT (0, 0)) :=
  (hg.block g (by have := h.lt; simp; omega) (fun e => own_ne_blk hv h.row hne e.symm)).trans (h.alloc o).row
theorem holes_grown {w w' : World} {bm N : Nat} {f : Nat → Nat} {row : Option Nat} (h : ∃ n D, n ≤ N ∧ w.ownsMap (H := Unit) Tryd.prog 75 (plainElem Tryd.prog 3) bm n D ∧ HoleD D f) (hg : w.grownBy w' row) (hne : some bm ≠ row) : ∃ n D, n ≤ N ∧ w'.ownsMap (H := Unit) Tryd.prog 75 (plainElem Tryd.prog 3) bm n D ∧ HoleD D f := by
  obtain ⟨n, D, hn, hm, hd⟩ := h
  exact ⟨n, D, hn, hm.kept hg hne, hd⟩
theorem map_ne_own {w : World} {bm N e z n base : Nat} {f : Nat → Nat} {v : Value} {xs : List Value} (h : ∃ n D, n ≤ N ∧ w.ownsMap (H := Unit) Tryd.prog 75 (plainElem Tryd.prog 3) bm n D ∧ HoleD D f) (hv : w.ownsRow base e z v n xs) : some bm ≠ v.ownBlock := by
  obtain ⟨_, D, _, ⟨es, c, hb, _⟩, _⟩ := h
  exact fun e => own_ne_map hv hb e.symm
theorem grown_below {w w6 : World} {R e z n : Nat} {o : Obj} {v : Value} {xs : List Value} (hr : R ≤ w.heap.size) (hv : w.ownsRow R e z v n xs) (hg : (w.alloc o).grownBy w6 v.ownBlock) : Below R w w6 :=
  ((Below.refl R w).alloc hr o).grown hg (by simp; omega) (fun k hk => (hv.lt k hk).1)
theorem Pl.share_done {w w6 : World} {R g bm : Nat} {v1 v2 v' : Value} {s : PS} {sl : List Nat} {N : Nat} {o : Obj} {r : Nat × Nat} (h : Pl w R g bm v1 v2 s sl N) (hg : (w.alloc o).grownBy w6 v2.ownBlock)
    (hv : w6.ownsRow R roomT 2 v' (s.shared.length + 1) (roomCells s.shared ++ [.int .i64 (6 - (r.1 : Int)), .int .i64 (r.2 : Int)])) :
    Pl (w6.setCell ⟨g, 6, none⟩ v') R g bm v1 v' { s with shared := s.shared ++ [r] } sl N ∧ Below R w (w6.setCell ⟨g, 6, none⟩ v') := by
  have hrow := h.grown_row h.shared (by decide) hg
  have hs := grown_set w6 g 6 v'
  have hgn : w.grownBy w6 v2.ownBlock := (World.grownBy_alloc w o _).trans hg
  have hsl : w6.ownsRow R slotT 1 v1 sl.length (slotCells sl) := by
    refine h.slots.kept hgn ?_
    cases hb : v2.ownBlock with
    | none => cases hv1 : v1.ownBlock <;> simp
    | some x => exact .inr (own_not_block h.slots h.shared (by decide) hb)
  have hho := holes_grown h.holes hgn (map_ne_own h.holes h.shared)
  refine ⟨⟨?_, h.rg, h.rb, hsl.kept hs (.inr (own_ne_blk hsl hrow (by decide))), ?_, holes_grown hho hs (fun e => h.gm (by injection e with e; exact e.symm))⟩, ?_⟩
  · rw [row_set hrow]; rfl
  · show (w6.setCell ⟨g, 6, none⟩ v').ownsRow R roomT 2 v' (s.shared ++ [r]).length (roomCells (s.shared ++ [r]))
    rw [roomCells_app, List.length_append]
    exact hv.kept hs (.inr (own_ne_blk hv hrow (by decide)))
  · exact (grown_below h.rs h.shared hg).setCell (p := ⟨g, 6, none⟩) h.rg _
def ShareP (R g bm : Nat) (v1 : Value) (a : Nat) (s' : PS) (sl : List Nat) (N : Nat) (w : World) (e : Ending) (w' : World) : Prop :=
  ∃ v2, PlaceP R g bm v1 v2 a s' sl N w e w'
end Go.Proofs.YtfgebmmnlneciaaDoor
