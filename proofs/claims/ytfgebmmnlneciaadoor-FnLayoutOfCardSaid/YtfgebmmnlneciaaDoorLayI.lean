/- The program's LayoutOf. -/
import Derived.Test.YtfgebmmnlneciaaDoorPlaceC
namespace Go.Proofs.YtfgebmmnlneciaaDoor
open Go.RowKit
theorem place_any (R g bm n : Nat) (v1 v2 : Value) (s : PS) (sl : List Nat) (N : Nat) (hN : N ≤ 900) (hR : 1 < R) (hbd : PBd n s) (hn : n ≤ 12) (z : Int) (c : Bool) (el : Int) (hz0 : 1 ≤ z) (hz1 : z ≤ 6) (w : World) (ht : Tab w) (h : Pl w R g bm v1 v2 s sl N) :
    Calls Tryd.prog 30 #[.pointer (some ⟨g, 0, none⟩), .agg #[.int .i64 z, .bool c, .int .i64 el]] w (ShareP R g bm v1 (placeF ⟨z, c, el⟩ s).1 (placeF ⟨z, c, el⟩ s).2 sl (N + 12) w) := by
  cases c
  · exact place_n R g bm n v1 v2 s sl N hN hR hbd hn z el hz0 hz1 w ht h
  · exact place_c R g bm n v1 v2 s sl N hN hR hbd hn z el hz0 hz1 w ht h
theorem infoSlot : (Tryd.prog.info? slotT).map (fun i => (i.zero, i.size, i.bytes)) = some (some (.agg #[.int .i64 0]), 1, 8) := by kernel_rfl
theorem slotCells_snoc (l : List Nat) (a : Nat) : slotCells (l ++ [a]) = slotCells l ++ [.int .i64 (a : Int)] := by simp [slotCells]
theorem Pl.slot_done {w w6 : World} {R g bm : Nat} {v1 v2 v' : Value} {s : PS} {sl : List Nat} {N : Nat} {o : Obj} {a : Nat} (h : Pl w R g bm v1 v2 s sl N) (hg : (w.alloc o).grownBy w6 v1.ownBlock)
    (hv : w6.ownsRow R slotT 1 v' (sl.length + 1) (slotCells sl ++ [.int .i64 (a : Int)])) :
    Pl (w6.setCell ⟨g, 2, none⟩ v') R g bm v' v2 s (sl ++ [a]) N ∧ Below R w (w6.setCell ⟨g, 2, none⟩ v') := by
  have hrow := h.grown_row h.slots (by decide) hg
  have hs := grown_set w6 g 2 v'
  have hgn : w.grownBy w6 v1.ownBlock := (World.grownBy_alloc w o _).trans hg
  have hsl : w6.ownsRow R roomT 2 v2 s.shared.length (roomCells s.shared) := by
    refine h.shared.kept hgn ?_
    cases hb : v1.ownBlock with
    | none => cases hv1 : v2.ownBlock <;> simp
    | some x => exact .inr (own_not_block h.shared h.slots (by decide) hb)
  have hho := holes_grown h.holes hgn (map_ne_own h.holes h.slots)
  refine ⟨⟨?_, h.rg, h.rb, ?_, hsl.kept hs (.inr (own_ne_blk hsl hrow (by decide))), holes_grown hho hs (fun e => h.gm (by injection e with e; exact e.symm))⟩, ?_⟩
  · rw [row_set hrow]; rfl
  · rw [slotCells_snoc, List.length_append]
    exact hv.kept hs (.inr (own_ne_blk hv hrow (by decide)))
  · exact (grown_below h.rs h.slots hg).setCell (p := ⟨g, 2, none⟩) h.rg _
/-- what LayoutOf answers. -/
def layV (l : List Fld) (v1 : Value) : Value := .agg #[.int .i64 ((layF l ps0).2.ls.words : Int), .int .i64 ((layF l ps0).2.ptrs : Int), v1, .int .i64 (layF l ps0).2.tag]
def LayP (l : List Fld) (w : World) (e : Ending) (w' : World) : Prop :=
  (fldsOk l = true ∧ ∃ v1, e = .returned (.tuple #[layV l v1, .bool true]) ∧ w'.ownsRow w.heap.size slotT 1 v1 l.length (slotCells (layF l ps0).1) ∧ Below w.heap.size w w') ∨
  (fldsOk l = false ∧ e = .returned (.tuple #[.agg #[.int .i64 0, .int .i64 0, .slice none 0 0, .int .i64 0], .bool false]) ∧ Below w.heap.size w w')
theorem fldsOk_at {l : List Fld} (h : fldsOk l = true) (k : Nat) (hk : k < l.length) : 1 ≤ (l[k]).size ∧ (l[k]).size ≤ 6 := by
  unfold fldsOk at h
  rw [Bool.and_eq_true, List.all_eq_true] at h
  have := h.1 l[k] (List.getElem_mem hk)
  unfold fldOk at this
  rw [Bool.and_eq_true] at this
  exact inB_out this.1
theorem fldsOk_len {l : List Fld} (h : fldsOk l = true) : l.length ≤ 12 := by
  unfold fldsOk at h
  rw [Bool.and_eq_true] at h
  simpa using h.2
theorem own_weak {w : World} {B B' e z n : Nat} {v : Value} {xs : List Value} (h : w.ownsRow B e z v n xs) (hb : B' ≤ B) : w.ownsRow B' e z v n xs := by
  refine ⟨h.1, ?_⟩
  rcases h.2 with hn | ⟨g, cap, cur, hv, hB, r⟩
  · exact .inl hn
  · exact .inr ⟨g, cap, cur, hv, Nat.le_trans hb hB, r⟩
theorem Pl.made (w : World) (R : Nat) (hR : R ≤ w.heap.size) :
    Pl ((w.alloc (.map #[] 0)).alloc (.cells #[.int .i64 0, .int .i64 0, .slice none 0 0, .int .i64 (-1), .map (some w.heap.size), .int .i64 0, .slice none 0 0, .int .i64 (-1)] planT)) R (w.heap.size + 1) w.heap.size (.slice none 0 0) (.slice none 0 0) ps0 [] 0 := by
  refine ⟨?_, by omega, hR, World.ownsRow_nil _ _ _ _, World.ownsRow_nil _ _ _ _, 0, .map [], Nat.le_refl _, (World.ownsMap_made w _ _ _).alloc _, holeD_empty⟩
  have := heap_alloc_new (w.alloc (.map #[] 0)) (.cells #[.int .i64 0, .int .i64 0, .slice none 0 0, .int .i64 (-1), .map (some w.heap.size), .int .i64 0, .slice none 0 0, .int .i64 (-1)] planT)
  rw [show (w.alloc (.map #[] 0)).heap.size = w.heap.size + 1 by simp] at this
  exact this
theorem grown_trans {a b c : World} {r : Option Nat} (h : a.grownBy b r) (k : b.grownBy c r) : a.grownBy c r :=
  ⟨k.os.trans h.os, k.tape.trans h.tape, k.output.trans h.output, Nat.le_trans h.size k.size, fun x hx hn => (k.block x (Nat.lt_of_lt_of_le hx h.size) hn).trans (h.block x hx hn)⟩
theorem store4 {w1 : World} {b : Nat} {T : TypeId} {a0 a1 a2 a3 : Value} (h : w1.heap[b]? = some (.cells #[a0, a1, a2, a3] T (0, 0))) (v0 v1 v2 v3 : Value) :
    ∃ wf, ((((w1.setCell ⟨b, 0, none⟩ v0).setCell ⟨b, 1, none⟩ v1).setCell ⟨b, 2, none⟩ v2).setCell ⟨b, 3, none⟩ v3) = wf ∧ wf.heap[b]? = some (.cells #[v0, v1, v2, v3] T (0, 0)) ∧ w1.grownBy wf (some b) := by
  have h3 := row_set (row_set (row_set (row_set h 0 v0) 1 v1) 2 v2) 3 v3
  exact ⟨_, rfl, by simpa using h3, grown_trans (grown_trans (grown_trans (grown_set _ b 0 v0) (grown_set _ b 1 v1)) (grown_set _ b 2 v2)) (grown_set _ b 3 v3)⟩
theorem cells4 {w1 : World} {b : Nat} {T : TypeId} {a0 a1 a2 a3 : Value} (h : w1.heap[b]? = some (.cells #[a0, a1, a2, a3] T (0, 0))) :
    w1.cell? ⟨b, 0, none⟩ = some a0 ∧ w1.cell? ⟨b, 1, none⟩ = some a1 ∧ w1.cell? ⟨b, 2, none⟩ = some a2 ∧ w1.cell? ⟨b, 3, none⟩ = some a3 := by
  refine ⟨?_, ?_, ?_, ?_⟩ <;> (rw [cell_of_row _ _ _ _ _ _ h]; rfl)
theorem grown_below_b {B b : Nat} {w w1 w2 : World} (h : Below B w w1) (hg : w1.grownBy w2 (some b)) (hb : B ≤ b) (hs : B ≤ w1.heap.size) : Below B w w2 :=
  h.trans ⟨hg.os, hg.tape, hg.output, hg.size, fun k hk => hg.block k (by omega) (fun e => by injection e with e; omega)⟩
theorem Flds.at2 {w : World} {A : Option Addr} {l : List Fld} (h : Flds w A l) {k : Nat} (hk : k < l.length) : ∃ x, A = some x ∧ x.block < w.heap.size ∧ FldAt w (x.add (k * 3)) l[k] := by
  rcases h with h | ⟨x, rfl, hx, hc⟩
  · rw [h] at hk; exact absurd hk (Nat.not_lt_zero _)
  · exact ⟨x, rfl, hx, hc k _ (List.getElem?_eq_getElem hk)⟩
theorem Tab.drew {w : World} (h : Tab w) : Tab w.drew := ⟨h.t0, h.t3, h.t4, h.t5, h.t6⟩
theorem lay_take (l : List Fld) (k : Nat) (h : k < l.length) : layF (l.take (k + 1)) ps0 = ((layF (l.take k) ps0).1 ++ [(placeF l[k] (layF (l.take k) ps0).2).1], (placeF l[k] (layF (l.take k) ps0).2).2) := by
  rw [List.take_succ_eq_append_getElem h, lay_snoc]
theorem lay_pbd (l : List Fld) (k : Nat) (h : k ≤ l.length) : PBd k (layF (l.take k) ps0).2 := by
  have := lay_bd (l.take k) pbd0
  rw [List.length_take, Nat.min_eq_left h, Nat.zero_add] at this
  exact this
theorem lay_len (l : List Fld) (k : Nat) (h : k ≤ l.length) : (layF (l.take k) ps0).1.length = k := by
  rw [lay_length, List.length_take, Nat.min_eq_left h]
end Go.Proofs.YtfgebmmnlneciaaDoor
