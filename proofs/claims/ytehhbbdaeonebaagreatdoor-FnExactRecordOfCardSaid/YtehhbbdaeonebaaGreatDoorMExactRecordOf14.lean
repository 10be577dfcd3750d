/- Texts of the proof of the law FnExactRecordOf, side by side: part 14. -/
import Derived.Test.YtehhbbdaeonebaaGreatDoorMExactRecordOf13
set_option maxHeartbeats 8000000
set_option maxRecDepth 100000
namespace Go.Proofs.YtehhbbdaeonebaaGreatDoor
open Go.RowKit
abbrev layT : TypeId := 99
abbrev intT : TypeId := 3
def placeCells (l : List (Nat × Nat)) : List Value := l.map fun r => Value.int .i64 (r.2 : Int)
def scaleCells (l : List (Nat × Nat)) : List Value := l.map fun r => Value.int .i64 (6 - (r.1 : Int))
def layCells (s : PS) (v1 v2 : Value) : Array Value := #[.int .i64 (s.ls.words : Int), .int .i64 (s.ptrs : Int), .int .i64 (s.ls.hole 6 : Int), .int .i64 (s.ls.hole 5 : Int), .int .i64 (s.ls.hole 4 : Int), .int .i64 (s.ls.hole 3 : Int), .int .i64 (s.ls.hole 2 : Int), .int .i64 (s.ls.hole 1 : Int), .int .i64 s.tag, .int .i64 (s.many : Int), v1, v2, .int .i64 s.point]
structure Sl (w : World) (R g : Nat) (v1 v2 : Value) (s : PS) : Prop where
 row : w.heap[g]? = some (.cells (layCells s v1 v2) layT (0, 0))
 rg : R ≤ g
 place : w.ownsRow R intT 1 v1 s.shared.length (placeCells s.shared)
 scale : w.ownsRow R intT 1 v2 s.shared.length (scaleCells s.shared)
 ne : v1.ownBlock = none ∨ v1.ownBlock ≠ v2.ownBlock
theorem Sl.lt {w : World} {R g : Nat} {v1 v2 : Value} {s : PS} (h : Sl w R g v1 v2 s) : g < w.heap.size := row_lt h.row
theorem Sl.rs {w : World} {R g : Nat} {v1 v2 : Value} {s : PS} (h : Sl w R g v1 v2 s) : R ≤ w.heap.size := Nat.le_of_lt (Nat.lt_of_le_of_lt h.rg h.lt)
theorem Sl.drew {w : World} {R g : Nat} {v1 v2 : Value} {s : PS} (h : Sl w R g v1 v2 s) : Sl w.drew R g v1 v2 s := ⟨h.row, h.rg, h.place, h.scale, h.ne⟩
theorem Sl.below {w w' : World} {R g : Nat} {v1 v2 : Value} {s : PS} (h : Sl w R g v1 v2 s) (hb : Below w.heap.size w w') : Sl w' R g v1 v2 s := by
 have hg : w.grownBy w' none := ⟨hb.os, hb.tape, hb.output, hb.size, fun k hk _ => hb.block k hk⟩
 exact ⟨(hb.block g h.lt).trans h.row, h.rg, h.place.kept hg (by cases hv : v1.ownBlock <;> simp), h.scale.kept hg (by cases hv : v2.ownBlock <;> simp), h.ne⟩
theorem Sl.alloc {w : World} {R g : Nat} {v1 v2 : Value} {s : PS} (h : Sl w R g v1 v2 s) (o : Obj) : Sl (w.alloc o) R g v1 v2 s := h.below ((Below.refl _ _).alloc (Nat.le_refl _) o)
theorem Sl.set_ {w : World} {R g : Nat} {v1 v2 : Value} {s : PS} (h : Sl w R g v1 v2 s) (i : Nat) (u : Value) (s' : PS) (hs : (layCells s v1 v2).setIfInBounds i u = layCells s' v1 v2) (hsh : s'.shared = s.shared) :
 Sl (w.setCell ⟨g, i, none⟩ u) R g v1 v2 s' := by
 have hg := grown_set w g i u
 exact ⟨by rw [row_set h.row, hs], h.rg, by rw [hsh]; exact h.place.kept hg (.inr (own_ne_blk h.place h.row (by decide))), by rw [hsh]; exact h.scale.kept hg (.inr (own_ne_blk h.scale h.row (by decide))), h.ne⟩
theorem Sl.set_below {w w0 : World} {R g : Nat} {v1 v2 : Value} {s : PS} (h : Sl w R g v1 v2 s) (hb : Below R w0 w) (i : Nat) (u : Value) : Below R w0 (w.setCell ⟨g, i, none⟩ u) := hb.setCell (p := ⟨g, i, none⟩) h.rg u
theorem Sl.cells {w : World} {R g : Nat} {v1 v2 : Value} {s : PS} (h : Sl w R g v1 v2 s) :
 w.cell? ⟨g, 0, none⟩ = some (.int .i64 (s.ls.words : Int)) ∧ w.cell? ⟨g, 1, none⟩ = some (.int .i64 (s.ptrs : Int)) ∧ w.cell? ⟨g, 2, none⟩ = some (.int .i64 (s.ls.hole 6 : Int)) ∧ w.cell? ⟨g, 3, none⟩ = some (.int .i64 (s.ls.hole 5 : Int)) ∧ w.cell? ⟨g, 4, none⟩ = some (.int .i64 (s.ls.hole 4 : Int)) ∧ w.cell? ⟨g, 5, none⟩ = some (.int .i64 (s.ls.hole 3 : Int)) ∧ w.cell? ⟨g, 6, none⟩ = some (.int .i64 (s.ls.hole 2 : Int)) ∧ w.cell? ⟨g, 7, none⟩ = some (.int .i64 (s.ls.hole 1 : Int)) ∧ w.cell? ⟨g, 8, none⟩ = some (.int .i64 s.tag) ∧ w.cell? ⟨g, 9, none⟩ = some (.int .i64 (s.many : Int)) ∧ w.cell? ⟨g, 10, none⟩ = some v1 ∧ w.cell? ⟨g, 11, none⟩ = some v2 ∧ w.cell? ⟨g, 12, none⟩ = some (.int .i64 s.point) := by
 refine ⟨?_, ?_, ?_, ?_, ?_, ?_, ?_, ?_, ?_, ?_, ?_, ?_, ?_⟩ <;> (rw [cell_of_row _ _ _ _ _ _ h.row]; rfl)
def optI : Option Nat → Int
 | none => -1
 | some a => (a : Int)
def HoleP (R g : Nat) (v1 v2 : Value) (s : PS) (k : Nat) (w : World) (e : Ending) (w' : World) : Prop :=
 e = .returned (.int .i64 (optI (holeF k s.ls).1)) ∧ Sl w' R g v1 v2 { s with ls := (holeF k s.ls).2 } ∧ Below R w w' ∧ Fr g g w w'
theorem hole_hit (k : Nat) (s : LS) (h : s.hole (k + 1) ≠ 0) : holeF (k + 1) s = (some (s.hole (k + 1)), ⟨s.words, upd s.hole (k + 1) 0⟩) := by rw [holeF, if_pos h]
theorem hole_miss (k : Nat) (s : LS) (h : s.hole (k + 1) = 0) : holeF (k + 1) s = (match holeF k s with | (none, _) => (none, s) | (some a, t) => (some (2 * a), ⟨t.words, upd t.hole (k + 1) (2 * a + 1)⟩)) := by
 rw [holeF, if_neg (by simp [h])]
 rfl
theorem hole_above (s : LS) (i : Nat) : ∀ k, k < i → (holeF k s).2.hole i = s.hole i
 | 0, _ => rfl
 | k + 1, h => by
   by_cases h0 : s.hole (k + 1) = 0
   · rw [hole_miss k s h0]
     have ih := hole_above s i k (by omega)
     cases hh : holeF k s with
     | mk o t =>
      rw [hh] at ih
      cases o with
      | none => rfl
      | some a => show upd _ _ _ i = _; rw [upd_other _ _ _ _ (by omega)]; exact ih
   · rw [hole_hit k s h0]; exact upd_other _ _ _ _ (by omega)
theorem hole_bd {n : Nat} {s : LS} (h : LBd n s) (k a : Nat) (hk : k ≤ 6) (ha : (holeF k s).1 = some a) : a < 64 * (n + 1) := by
 have h1 := room_of_hole s k
 cases hh : holeF k s with
 | mk o t =>
  rw [hh] at h1 ha
  cases o with
  | none => cases ha
  | some b =>
   obtain rfl : b = a := by injection ha
   have := room_bd7 h hk
   rw [h1] at this
   exact this
theorem fr_refl (g : Nat) (w : World) : Fr g g w w := ⟨Nat.le_refl _, fun _ _ _ _ => rfl⟩
theorem lay_idx {c : Int} {k : Nat} (hc : c + (k + 1 : Nat) = 6) (h0 : 0 ≤ c) (s : PS) (v1 v2 : Value) :
 (layCells s v1 v2)[2 + c.toNat]? = some (.int .i64 (s.ls.hole (k + 1) : Int)) ∧ ∀ v : Nat, (layCells s v1 v2).setIfInBounds (2 + c.toNat) (.int .i64 (v : Int)) = layCells { s with ls := ⟨s.ls.words, upd s.ls.hole (k + 1) v⟩ } v1 v2 := by
 have hk6 : k = 0 ∨ k = 1 ∨ k = 2 ∨ k = 3 ∨ k = 4 ∨ k = 5 := by omega
 rcases hk6 with rfl | rfl | rfl | rfl | rfl | rfl
 · obtain rfl : c = 5 := by omega
   exact ⟨rfl, fun v => by simp [layCells, upd]⟩
 · obtain rfl : c = 4 := by omega
   exact ⟨rfl, fun v => by simp [layCells, upd]⟩
 · obtain rfl : c = 3 := by omega
   exact ⟨rfl, fun v => by simp [layCells, upd]⟩
 · obtain rfl : c = 2 := by omega
   exact ⟨rfl, fun v => by simp [layCells, upd]⟩
 · obtain rfl : c = 1 := by omega
   exact ⟨rfl, fun v => by simp [layCells, upd]⟩
 · obtain rfl : c = 0 := by omega
   exact ⟨rfl, fun v => by simp [layCells, upd]⟩
theorem hole_any (R g : Nat) (v1 v2 : Value) (s : PS) (hbd : LBd 40 s.ls) : ∀ (k : Nat) (c : Int) (w : World), c + k = 6 → k ≤ 6 → Sl w R g v1 v2 s →
 Calls Tryz.prog 104 #[.pointer (some ⟨g, 0, none⟩), .int .i64 c] w (HoleP R g v1 v2 s k w)
 | 0, c, w, hc, _, h => by
   obtain rfl : c = 6 := by omega
   have HH := Lib.hid h
   clear h
   go_enter Tryz.func104, Tryz.ntmps104
   go_wp2
   go_ret
   exact ⟨rfl, HH.out, Below.refl _ _, fr_refl _ _⟩
 | k + 1, c, w, hc, hk, h => by
   have hbk := hbd.2 (k + 1)
   have hp6 : 2 ^ (k + 1) ≤ 2 ^ 6 := Nat.pow_le_pow_right (by decide) hk
   have hbk2 : s.ls.hole (k + 1) < 3000 := by
    have := Nat.mul_le_mul_right 41 hp6
    simp only [show (2 : Nat) ^ 6 = 64 from rfl] at this
    omega
   have hc0 : 0 ≤ c := by omega
   have hc5 : c < 6 := by omega
   have hl := lay_idx hc hc0 s v1 v2
   have hcell : w.cell? ⟨g, 2 + c.toNat, none⟩ = some (.int .i64 (s.ls.hole (k + 1) : Int)) := by rw [cell_of_row _ _ _ _ _ _ h.row]; exact hl.1
   have hfz := row_free h.row (2 + c.toNat)
   clear hbk hp6
   by_cases h0 : s.ls.hole (k + 1) = 0
   · have HM := Lib.hid (hole_miss k s.ls h0)
     have HA := Lib.hid (hole_above s.ls (k + 1) k (Nat.lt_succ_self k))
     have HBA := Lib.hid (fun a => hole_bd hbd k a (by omega))
     have HN := Lib.hid (hole_none s.ls k)
     have HC := Lib.hid hc
     have hc1 : c + 1 + (k : Int) = 6 := by omega
     have HR := Lib.hid (hole_any R g v1 v2 s hbd k (c + 1) w hc1 (by omega) h)
     have hz : ¬ (0 : Int) < (s.ls.hole (k + 1) : Int) := by omega
     generalize (s.ls.hole (k + 1) : Int) = hv at hcell hz
     clear h hl hbk2 hc hc1 h0
     go_enter Tryz.func104, Tryz.ntmps104
     go_wp2_with fail
     refine HR.out.mono ?_
     rintro e w1 ⟨rfl, hs1, hb1, hf1⟩
     have hrow := row_free hs1.row (2 + c.toNat)
     have hl1 := lay_idx HC.out hc0 { s with ls := (holeF k s.ls).2 } v1 v2
     have hcell1 : w1.cell? ⟨g, 2 + c.toNat, none⟩ = some (.int .i64 ((holeF k s.ls).2.hole (k + 1) : Int)) := by rw [cell_of_row _ _ _ _ _ _ hs1.row]; exact hl1.1
     have HS1 := Lib.hid hs1
     have HB1 := Lib.hid hb1
     have HF1 := Lib.hid hf1
     have HL1 := Lib.hid hl1.2
     clear hs1 hb1 hf1 hl1
     generalize holeF k s.ls = p at *
     obtain ⟨o, t⟩ := p
     cases o with
     | none =>
      have ht : t = s.ls := HN.out rfl
      subst ht
      simp only [optI]
      go_wp2
      go_ret
      rw [HoleP, HM.out]
      exact ⟨rfl, HS1.out, HB1.out, HF1.out⟩
     | some a =>
      have ha := HBA.out a rfl
      have HE := Lib.hid (HS1.out.set_ (2 + c.toNat) (.int .i64 ((2 * a + 1 : Nat) : Int)) _ (HL1.out (2 * a + 1)) rfl)
      have HBE := Lib.hid (HS1.out.set_below HB1.out (2 + c.toNat) (.int .i64 ((2 * a + 1 : Nat) : Int)))
      have he : ((2 * a + 1 : Nat) : Int) = 2 * (a : Int) + 1 := by omega
      rw [he] at HE HBE
      clear he
      simp only [optI]
      go_wp2
      go_ret
      rw [HoleP, HM.out]
      exact ⟨ret_int (by show _ = ((2 * a : Nat) : Int); omega), HE.out, HBE.out, HF1.out.trans (Fr.set g g _ w1 _)⟩
   · have HM := Lib.hid (hole_hit k s.ls h0)
     have hs1 := h.set_ (2 + c.toNat) (.int .i64 ((0 : Nat) : Int)) _ (hl.2 0) rfl
     have HS := Lib.hid hs1
     have HB := Lib.hid (h.set_below (Below.refl R w) (2 + c.toNat) (.int .i64 0))
     have hz : (0 : Int) < (s.ls.hole (k + 1) : Int) := by omega
     clear h hl hs1 hc h0
     go_enter Tryz.func104, Tryz.ntmps104
     go_wp2
     go_ret
     rw [HoleP, HM.out]
     exact ⟨rfl, HS.out, HB.out, Fr.set g g _ w _⟩
end Go.Proofs.YtehhbbdaeonebaaGreatDoor
