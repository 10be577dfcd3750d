/- Texts of the proof of the law FnExactRecordGet, side by side: part 12. -/
import Derived.Test.YtehhbbdaeonebaaGreatDoorMExactRecordGet11
set_option maxHeartbeats 8000000
set_option maxRecDepth 100000
namespace Go.Proofs.YtehhbbdaeonebaaGreatDoor
open Go.RowKit
abbrev layT : TypeId := 99
abbrev intT : TypeId := 3
def placeCells (l : List (Nat × Nat)) : List Value := l.map fun r => Value.int .i64 (r.2 : Int)
def scaleCells (l : List (Nat × Nat)) : List Value := l.map fun r => Value.int .i64 (6 - (r.1 : Int))
def layCells (s : PS) (v1 v2 : Value) : Array Value := #[.int .i64 (s.ls.words : Int), .int .i64 (s.ptrs : Int), .int .i64 (s.ls.hole 6 : Int), .int .i64 (s.ls.hole 5 : Int), .int .i64 (s.ls.hole 4 : Int), .int .i64 (s.ls.hole 3 : Int), .int .i64 (s.ls.hole 2 : Int), .int .i64 (s.ls.hole 1 : Int), .int .i64 s.tag, .int .i64 (s.many : Int), v1, v2, .int .i64 s.point]
structure Sl (w : World) (R g : Nat) (v1 v2 : Value) (s : PS) : Prop where
 row : w.heap[g]? = some (.cells (layCells s v1 v2) layT (0, 0))
 rg : R ≤ g
 place : w.ownsRow R intT 1 v1 s.shared.length (placeCells s.shared)
 scale : w.ownsRow R intT 1 v2 s.shared.length (scaleCells s.shared)
 ne : v1.ownBlock = none ∨ v1.ownBlock ≠ v2.ownBlock
theorem Sl.lt {w : World} {R g : Nat} {v1 v2 : Value} {s : PS} (h : Sl w R g v1 v2 s) : g < w.heap.size := row_lt h.row
theorem Sl.rs {w : World} {R g : Nat} {v1 v2 : Value} {s : PS} (h : Sl w R g v1 v2 s) : R ≤ w.heap.size := Nat.le_of_lt (Nat.lt_of_le_of_lt h.rg h.lt)
theorem Sl.drew {w : World} {R g : Nat} {v1 v2 : Value} {s : PS} (h : Sl w R g v1 v2 s) : Sl w.drew R g v1 v2 s := ⟨h.row, h.rg, h.place, h.scale, h.ne⟩
theorem Sl.below {w w' : World} {R g : Nat} {v1 v2 : Value} {s : PS} (h : Sl w R g v1 v2 s) (hb : Below w.heap.size w w') : Sl w' R g v1 v2 s := by
 have hg : w.grownBy w' none := ⟨hb.os, hb.tape, hb.output, hb.size, fun k hk _ => hb.block k hk⟩
 exact ⟨(hb.block g h.lt).trans h.row, h.rg, h.place.kept hg (by cases hv : v1.ownBlock <;> simp), h.scale.kept hg (by cases hv : v2.ownBlock <;> simp), h.ne⟩
theorem Sl.alloc {w : World} {R g : Nat} {v1 v2 : Value} {s : PS} (h : Sl w R g v1 v2 s) (o : Obj) : Sl (w.alloc o) R g v1 v2 s := h.below ((Below.refl _ _).alloc (Nat.le_refl _) o)
theorem Sl.set_ {w : World} {R g : Nat} {v1 v2 : Value} {s : PS} (h : Sl w R g v1 v2 s) (i : Nat) (u : Value) (s' : PS) (hs : (layCells s v1 v2).setIfInBounds i u = layCells s' v1 v2) (hsh : s'.shared = s.shared) :
 Sl (w.setCell ⟨g, i, none⟩ u) R g v1 v2 s' := by
 have hg := grown_set w g i u
 exact ⟨by rw [row_set h.row, hs], h.rg, by rw [hsh]; exact h.place.kept hg (.inr (own_ne_blk h.place h.row (by decide))), by rw [hsh]; exact h.scale.kept hg (.inr (own_ne_blk h.scale h.row (by decide))), h.ne⟩
theorem Sl.set_below {w w0 : World} {R g : Nat} {v1 v2 : Value} {s : PS} (h : Sl w R g v1 v2 s) (hb : Below R w0 w) (i : Nat) (u : Value) : Below R w0 (w.setCell ⟨g, i, none⟩ u) := hb.setCell (p := ⟨g, i, none⟩) h.rg u
theorem Sl.cells {w : World} {R g : Nat} {v1 v2 : Value} {s : PS} (h : Sl w R g v1 v2 s) :
 w.cell? ⟨g, 0, none⟩ = some (.int .i64 (s.ls.words : Int)) ∧ w.cell? ⟨g, 1, none⟩ = some (.int .i64 (s.ptrs : Int)) ∧ w.cell? ⟨g, 2, none⟩ = some (.int .i64 (s.ls.hole 6 : Int)) ∧ w.cell? ⟨g, 3, none⟩ = some (.int .i64 (s.ls.hole 5 : Int)) ∧ w.cell? ⟨g, 4, none⟩ = some (.int .i64 (s.ls.hole 4 : Int)) ∧ w.cell? ⟨g, 5, none⟩ = some (.int .i64 (s.ls.hole 3 : Int)) ∧ w.cell? ⟨g, 6, none⟩ = some (.int .i64 (s.ls.hole 2 : Int)) ∧ w.cell? ⟨g, 7, none⟩ = some (.int .i64 (s.ls.hole 1 : Int)) ∧ w.cell? ⟨g, 8, none⟩ = some (.int .i64 s.tag) ∧ w.cell? ⟨g, 9, none⟩ = some (.int .i64 (s.many : Int)) ∧ w.cell? ⟨g, 10, none⟩ = some v1 ∧ w.cell? ⟨g, 11, none⟩ = some v2 ∧ w.cell? ⟨g, 12, none⟩ = some (.int .i64 s.point) := by
 refine ⟨?_, ?_, ?_, ?_, ?_, ?_, ?_, ?_, ?_, ?_, ?_, ?_, ?_⟩ <;> (rw [cell_of_row _ _ _ _ _ _ h.row]; rfl)
def optI : Option Nat → Int
 | none => -1
 | some a => (a : Int)
def HoleP (R g : Nat) (v1 v2 : Value) (s : PS) (k : Nat) (w : World) (e : Ending) (w' : World) : Prop :=
 e = .returned (.int .i64 (optI (holeF k s.ls).1)) ∧ Sl w' R g v1 v2 { s with ls := (holeF k s.ls).2 } ∧ Below R w w' ∧ Fr g g w w'
theorem hole_hit (k : Nat) (s : LS) (h : s.hole (k + 1) ≠ 0) : holeF (k + 1) s = (some (s.hole (k + 1)), ⟨s.words, upd s.hole (k + 1) 0⟩) := by rw [holeF, if_pos h]
theorem hole_miss (k : Nat) (s : LS) (h : s.hole (k + 1) = 0) : holeF (k + 1) s = (match holeF k s with | (none, _) => (none, s) | (some a, t) => (some (2 * a), ⟨t.words, upd t.hole (k + 1) (2 * a + 1)⟩)) := by
 rw [holeF, if_neg (by simp [h])]
 rfl
theorem hole_above (s : LS) (i : Nat) : ∀ k, k < i → (holeF k s).2.hole i = s.hole i
 | 0, _ => rfl
 | k + 1, h => by
   by_cases h0 : s.hole (k + 1) = 0
   · rw [hole_miss k s h0]
     have ih := hole_above s i k (by omega)
     cases hh : holeF k s with
     | mk o t =>
      rw [hh] at ih
      cases o with
      | none => rfl
      | some a => show upd _ _ _ i = _; rw [upd_other _ _ _ _ (by omega)]; exact ih
   · rw [hole_hit k s h0]; exact upd_other _ _ _ _ (by omega)
theorem hole_bd {n : Nat} {s : LS} (h : LBd n s) (k a : Nat) (hk : k ≤ 6) (ha : (holeF k s).1 = some a) : a < 64 * (n + 1) := by
 have h1 := room_of_hole s k
 cases hh : holeF k s with
 | mk o t =>
  rw [hh] at h1 ha
  cases o with
  | none => cases ha
  | some b =>
   obtain rfl : b = a := by injection ha
   have := room_bd7 h hk
   rw [h1] at this
   exact this
theorem fr_refl (g : Nat) (w : World) : Fr g g w w := ⟨Nat.le_refl _, fun _ _ _ _ => rfl⟩
theorem lay_idx {c : Int} {k : Nat} (hc : c + (k + 1 : Nat) = 6) (h0 : 0 ≤ c) (s : PS) (v1 v2 : Value) :
 (layCells s v1 v2)[2 + c.toNat]? = some (.int .i64 (s.ls.hole (k + 1) : Int)) ∧ ∀ v : Nat, (layCells s v1 v2).setIfInBounds (2 + c.toNat) (.int .i64 (v : Int)) = layCells { s with ls := ⟨s.ls.words, upd s.ls.hole (k + 1) v⟩ } v1 v2 := by
 have hk6 : k = 0 ∨ k = 1 ∨ k = 2 ∨ k = 3 ∨ k = 4 ∨ k = 5 := by omega
 rcases hk6 with rfl | rfl | rfl | rfl | rfl | rfl
 · obtain rfl : c = 5 := by omega
   exact ⟨rfl, fun v => by simp [layCells, upd]⟩
 · obtain rfl : c = 4 := by omega
   exact ⟨rfl, fun v => by simp [layCells, upd]⟩
 · obtain rfl : c = 3 := by omega
   exact ⟨rfl, fun v => by simp [layCells, upd]⟩
 · obtain rfl : c = 2 := by omega
   exact ⟨rfl, fun v => by simp [layCells, upd]⟩
 · obtain rfl : c = 1 := by omega
   exact ⟨rfl, fun v => by simp [layCells, upd]⟩
 · obtain rfl : c = 0 := by omega
   exact ⟨rfl, fun v => by simp [layCells, upd]⟩
theorem hole_any (R g : Nat) (v1 v2 : Value) (s : PS) (hbd : LBd 40 s.ls) : ∀ (k : Nat) (c : Int) (w : World), c + k = 6 → k ≤ 6 → Sl w R g v1 v2 s →
 Calls Tryz.prog 104 #[.pointer (some ⟨g, 0, none⟩), .int .i64 c] w (HoleP R g v1 v2 s k w)
 | 0, c, w, hc, _, h => by
   obtain rfl : c = 6 := by omega
   have HH := Lib.hid h
   clear h
   go_enter Tryz.func104, Tryz.ntmps104
   go_wp2
   go_ret
   exact ⟨rfl, HH.out, Below.refl _ _, fr_refl _ _⟩
 | k + 1, c, w, hc, hk, h => by
   have hbk := hbd.2 (k + 1)
   have hp6 : 2 ^ (k + 1) ≤ 2 ^ 6 := Nat.pow_le_pow_right (by decide) hk
   have hbk2 : s.ls.hole (k + 1) < 3000 := by
    have := Nat.mul_le_mul_right 41 hp6
    simp only [show (2 : Nat) ^ 6 = 64 from rfl] at this
    omega
   have hc0 : 0 ≤ c := by omega
   have hc5 : c < 6 := by omega
   have hl := lay_idx hc hc0 s v1 v2
   have hcell : w.cell? ⟨g, 2 + c.toNat, none⟩ = some (.int .i64 (s.ls.hole (k + 1) : Int)) := by rw [cell_of_row _ _ _ _ _ _ h.row]; exact hl.1
   have hfz := row_free h.row (2 + c.toNat)
   clear hbk hp6
   by_cases h0 : s.ls.hole (k + 1) = 0
   · have HM := Lib.hid (hole_miss k s.ls h0)
     have HA := Lib.hid (hole_above s.ls (k + 1) k (Nat.lt_succ_self k))
     have HBA := Lib.hid (fun a => hole_bd hbd k a (by omega))
     have HN := Lib.hid (hole_none s.ls k)
     have HC := Lib.hid hc
     have hc1 : c + 1 + (k : Int) = 6 := by omega
     have HR := Lib.hid (hole_any R g v1 v2 s hbd k (c + 1) w hc1 (by omega) h)
     have hz : ¬ (0 : Int) < (s.ls.hole (k + 1) : Int) := by omega
     generalize (s.ls.hole (k + 1) : Int) = hv at hcell hz
     clear h hl hbk2 hc hc1 h0
     go_enter Tryz.func104, Tryz.ntmps104
     go_wp2_with fail
     refine HR.out.mono ?_
     rintro e w1 ⟨rfl, hs1, hb1, hf1⟩
     have hrow := row_free hs1.row (2 + c.toNat)
     have hl1 := lay_idx HC.out hc0 { s with ls := (holeF k s.ls).2 } v1 v2
     have hcell1 : w1.cell? ⟨g, 2 + c.toNat, none⟩ = some (.int .i64 ((holeF k s.ls).2.hole (k + 1) : Int)) := by rw [cell_of_row _ _ _ _ _ _ hs1.row]; exact hl1.1
     have HS1 := Lib.hid hs1
     have HB1 := Lib.hid hb1
     have HF1 := Lib.hid hf1
     have HL1 := Lib.hid hl1.2
     clear hs1 hb1 hf1 hl1
     generalize holeF k s.ls = p at *
     obtain ⟨o, t⟩ := p
     cases o with
     | none =>
      have ht : t = s.ls := HN.out rfl
      subst ht
      simp only [optI]
      go_wp2
      go_ret
      rw [HoleP, HM.out]
      exact ⟨rfl, HS1.out, HB1.out, HF1.out⟩
     | some a =>
      have ha := HBA.out a rfl
      have HE := Lib.hid (HS1.out.set_ (2 + c.toNat) (.int .i64 ((2 * a + 1 : Nat) : Int)) _ (HL1.out (2 * a + 1)) rfl)
      have HBE := Lib.hid (HS1.out.set_below HB1.out (2 + c.toNat) (.int .i64 ((2 * a + 1 : Nat) : Int)))
      have he : ((2 * a + 1 : Nat) : Int) = 2 * (a : Int) + 1 := by omega
      rw [he] at HE HBE
      clear he
      simp only [optI]
      go_wp2
      go_ret
      rw [HoleP, HM.out]
      exact ⟨ret_int (by show _ = ((2 * a : Nat) : Int); omega), HE.out, HBE.out, HF1.out.trans (Fr.set g g _ w1 _)⟩
   · have HM := Lib.hid (hole_hit k s.ls h0)
     have hs1 := h.set_ (2 + c.toNat) (.int .i64 ((0 : Nat) : Int)) _ (hl.2 0) rfl
     have HS := Lib.hid hs1
     have HB := Lib.hid (h.set_below (Below.refl R w) (2 + c.toNat) (.int .i64 0))
     have hz : (0 : Int) < (s.ls.hole (k + 1) : Int) := by omega
     clear h hl hs1 hc h0
     go_enter Tryz.func104, Tryz.ntmps104
     go_wp2
     go_ret
     rw [HoleP, HM.out]
     exact ⟨rfl, HS.out, HB.out, Fr.set g g _ w _⟩
def DataP (R g : Nat) (v1 v2 : Value) (a : Nat) (s' : PS) (w : World) (e : Ending) (w' : World) : Prop :=
 e = .returned (.int .i64 (a : Int)) ∧ Sl w' R g v1 v2 s' ∧ Below R w w' ∧ Fr g g w w'
def partF (k t : Nat) (s : LS) : LS := ⟨s.words + 1, fun i => if t < i ∧ i ≤ k then 2 ^ i * s.words + 1 else s.hole i⟩
theorem part_start (k : Nat) (s : LS) : partF k k s = ⟨s.words + 1, s.hole⟩ := by
 unfold partF
 congr 1
 funext i
 rw [if_neg (by omega)]
theorem part_end (k : Nat) (s : LS) : partF k 0 s = freshF k s := rfl
theorem part_step (k t : Nat) (s : LS) (h : t + 1 ≤ k) : (⟨(partF k (t + 1) s).words, upd (partF k (t + 1) s).hole (t + 1) (2 ^ (t + 1) * s.words + 1)⟩ : LS) = partF k t s := by
 unfold partF
 congr 1
 funext i
 unfold upd
 by_cases hi : i = t + 1
 · subst hi; rw [if_pos rfl, if_pos ⟨by omega, h⟩]
 · rw [if_neg hi]
   dsimp only
   by_cases hc : t + 1 < i ∧ i ≤ k
   · rw [if_pos hc, if_pos ⟨by omega, hc.2⟩]
   · rw [if_neg hc, if_neg (by omega)]
theorem data_any (R g : Nat) (v1 v2 : Value) (s : PS) (hbd : LBd 40 s.ls) (k : Nat) (c : Int) (w : World) (hc : c + k = 6) (hk : k ≤ 6) (h : Sl w R g v1 v2 s) :
 Calls Tryz.prog 78 #[.pointer (some ⟨g, 0, none⟩), .int .i64 c] w (DataP R g v1 v2 (roomF k s.ls).1 { s with ls := (roomF k s.ls).2 } w) := by
 have HR := Lib.hid (hole_any R g v1 v2 s hbd k c w hc hk h)
 have HM := Lib.hid (room_of_hole s.ls k)
 have HN := Lib.hid (hole_none s.ls k)
 have HBA := Lib.hid (fun a => hole_bd hbd k a hk)
 have hw40 := hbd.1
 cases hh : holeF k s.ls with
 | mk o t =>
  unfold HoleP at HR
  rw [hh] at HR
  rw [hh] at HM HN
  have HHH := Lib.hid hh
  clear h hbd
  cases o with
  | some a =>
   have ha := HBA.out a (by rw [hh])
   clear hh
   simp only [optI] at HR
   go_enter Tryz.func78, Tryz.ntmps78
   go_wp2_with fail
   refine HR.out.mono ?_
   rintro e w1 ⟨rfl, hs1, hb1, hf1⟩
   have HS1 := Lib.hid hs1
   have HB1 := Lib.hid hb1
   have HF1 := Lib.hid hf1
   clear hs1 hb1 hf1
   go_wp2
   go_ret
   rw [DataP, HM.out]
   exact ⟨rfl, HS1.out, HB1.out, HF1.out⟩
  | none =>
   have ht : t = s.ls := HN.out rfl
   subst ht
   clear hh
   simp only [optI] at HR
   have hk7 : (k = 0 ∧ c = 6) ∨ (k = 1 ∧ c = 5) ∨ (k = 2 ∧ c = 4) ∨ (k = 3 ∧ c = 3) ∨ (k = 4 ∧ c = 2) ∨ (k = 5 ∧ c = 1) ∨ (k = 6 ∧ c = 0) := by omega
   rcases hk7 with ⟨rfl, rfl⟩ | ⟨rfl, rfl⟩ | ⟨rfl, rfl⟩ | ⟨rfl, rfl⟩ | ⟨rfl, rfl⟩ | ⟨rfl, rfl⟩ | ⟨rfl, rfl⟩
   · go_enter Tryz.func78, Tryz.ntmps78
     go_wp2_with fail
     refine HR.out.mono ?_
     rintro e w1 ⟨rfl, hs1, hb1, hf1⟩
     have hs2 := hs1.set_ 0 (.int .i64 ((s.ls.words : Int) + 1)) { s with ls := ⟨s.ls.words + 1, s.ls.hole⟩ } (by simp [layCells]) rfl
     have q0 := hs1.cells.1
     have f0 := row_free hs1.row 0
     have HS2 := Lib.hid hs2
     have HB2 := Lib.hid (hs1.set_below hb1 0 (.int .i64 ((s.ls.words : Int) + 1)))
     have HF2 := Lib.hid (hf1.trans (Fr.set g g 0 w1 (.int .i64 ((s.ls.words : Int) + 1))))
     clear hs1 hb1 hf1 hs2
     go_wp2
     go_loopw [6, 7] (fun rst i wr => ∃ t : Nat, i = .int .i64 (6 - (t : Int)) ∧ t ≤ 6 ∧ Hid (t ≤ 0) ∧ rst = .int .i64 (((2 ^ t * s.ls.words + 1 : Nat)) : Int) ∧ Hid (Sl wr R g v1 v2 { s with ls := partF 0 t s.ls }) ∧ Hid (Below R w wr) ∧ Hid (Fr g g w wr)) (fun _ i _ => (6 - intOf i).toNat)
     case atStart => exact ⟨0, by go_num, by decide, by exact Lib.hid (Nat.le_refl _), by go_num, by rw [part_start]; exact HS2, HB2, HF2⟩
     case round =>
      obtain ⟨t, rfl, ht6, HTK, rfl, HS, HB, HF⟩ := hrel
      by_cases ht0 : t = 0
      · subst ht0
        go_wp2
        go_ret
        rw [DataP, HM.out]
        exact ⟨ret_int (by show _ = ((2 ^ 0 * s.ls.words : Nat) : Int); omega), by have := HS.out; rw [part_end] at this; exact this, HB.out, HF.out⟩
      · obtain ⟨u, rfl⟩ : ∃ u, t = u + 1 := ⟨t - 1, by omega⟩
        have hci : (6 - ((u + 1 : Nat) : Int)) + ((u + 1 : Nat) : Int) = 6 := by omega
        have hc0 : 0 ≤ (6 - ((u + 1 : Nat) : Int)) := by omega
        have hc5 : (6 - ((u + 1 : Nat) : Int)) < 6 := by omega
        have hl1 := lay_idx hci hc0 { s with ls := partF 0 (u + 1) s.ls } v1 v2
        have hcn : (6 - ((u + 1 : Nat) : Int)) + 1 = 6 - (u : Int) := by omega
        have HCN := Lib.hid hcn
        have HCI := Lib.hid hci
        have HPS := Lib.hid (part_step 0 u s.ls HTK.out)
        have hpw : 2 ^ (u + 1) = 2 * 2 ^ u := by rw [Nat.pow_succ, Nat.mul_comm]
        have hp5 : 2 ^ u ≤ 2 ^ 5 := Nat.pow_le_pow_right (by decide) (by omega)
        have hrb : 2 ^ (u + 1) * s.ls.words + 1 ≤ 4000 := by
         have h1 := Nat.mul_le_mul hp5 hw40
         rw [hpw, Nat.mul_assoc]
         simp only [show (2 : Nat) ^ 5 = 32 from rfl] at h1
         omega
        have hnx : (((2 ^ (u + 1) * s.ls.words + 1 : Nat) : Int) + 1) / 2 = ((2 ^ u * s.ls.words + 1 : Nat) : Int) := by
         rw [hpw, Nat.mul_assoc]; omega
        have HNX := Lib.hid hnx
        have hcell1 := cell_of_row wr g (2 + (6 - ((u + 1 : Nat) : Int)).toNat) _ _ _ HS.out.row
        rw [hl1.1] at hcell1
        have hfz1 := row_free HS.out.row (2 + (6 - ((u + 1 : Nat) : Int)).toNat)
        have hs3 := HS.out.set_ (2 + (6 - ((u + 1 : Nat) : Int)).toNat) (.int .i64 ((2 ^ (u + 1) * s.ls.words + 1 : Nat) : Int)) _ (hl1.2 _) rfl
        rw [HPS.out] at hs3
        have HS3 := Lib.hid hs3
        have HB3 := Lib.hid (HS.out.set_below HB.out (2 + (6 - ((u + 1 : Nat) : Int)).toNat) (.int .i64 ((2 ^ (u + 1) * s.ls.words + 1 : Nat) : Int)))
        have HF3 := Lib.hid (HF.out.trans (Fr.set g g (2 + (6 - ((u + 1 : Nat) : Int)).toNat) wr (.int .i64 ((2 ^ (u + 1) * s.ls.words + 1 : Nat) : Int))))
        have HU := Lib.hid (show u ≤ 0 by have := HTK.out; omega)
        have hu5 : u ≤ 5 := by omega
        clear hs3 hl1 hci hcn hpw hp5 hnx ht0 ht6
        have hr0 : (0 : Int) ≤ ((2 ^ (u + 1) * s.ls.words + 1 : Nat) : Int) := by omega
        have hr1 : ((2 ^ (u + 1) * s.ls.words + 1 : Nat) : Int) ≤ 4000 := by omega
        have hcu := HCN.out
        have HCU := Lib.hid hcu
        clear hrb hcu
        generalize ((2 ^ (u + 1) * s.ls.words + 1 : Nat) : Int) = rr at *
        generalize (6 - ((u + 1 : Nat) : Int)) = cc at *
        generalize (((partF 0 (u + 1) s.ls).hole (u + 1) : Nat) : Int) = hv at *
        go_wp2
        go_roundw
        case rel => exact ⟨u, by rw [HCU.out], by omega, HU, by rw [HNX.out], HS3, HB3, HF3⟩
        case measure => have := HCU.out; simp [intOf]; omega
   · go_enter Tryz.func78, Tryz.ntmps78
     go_wp2_with fail
     refine HR.out.mono ?_
     rintro e w1 ⟨rfl, hs1, hb1, hf1⟩
     have hs2 := hs1.set_ 0 (.int .i64 ((s.ls.words : Int) + 1)) { s with ls := ⟨s.ls.words + 1, s.ls.hole⟩ } (by simp [layCells]) rfl
     have q0 := hs1.cells.1
     have f0 := row_free hs1.row 0
     have HS2 := Lib.hid hs2
     have HB2 := Lib.hid (hs1.set_below hb1 0 (.int .i64 ((s.ls.words : Int) + 1)))
     have HF2 := Lib.hid (hf1.trans (Fr.set g g 0 w1 (.int .i64 ((s.ls.words : Int) + 1))))
     clear hs1 hb1 hf1 hs2
     go_wp2
     go_loopw [6, 7] (fun rst i wr => ∃ t : Nat, i = .int .i64 (6 - (t : Int)) ∧ t ≤ 6 ∧ Hid (t ≤ 1) ∧ rst = .int .i64 (((2 ^ t * s.ls.words + 1 : Nat)) : Int) ∧ Hid (Sl wr R g v1 v2 { s with ls := partF 1 t s.ls }) ∧ Hid (Below R w wr) ∧ Hid (Fr g g w wr)) (fun _ i _ => (6 - intOf i).toNat)
     case atStart => exact ⟨1, by go_num, by decide, by exact Lib.hid (Nat.le_refl _), by go_num, by rw [part_start]; exact HS2, HB2, HF2⟩
     case round =>
      obtain ⟨t, rfl, ht6, HTK, rfl, HS, HB, HF⟩ := hrel
      by_cases ht0 : t = 0
      · subst ht0
        go_wp2
        go_ret
        rw [DataP, HM.out]
        exact ⟨ret_int (by show _ = ((2 ^ 1 * s.ls.words : Nat) : Int); omega), by have := HS.out; rw [part_end] at this; exact this, HB.out, HF.out⟩
      · obtain ⟨u, rfl⟩ : ∃ u, t = u + 1 := ⟨t - 1, by omega⟩
        have hci : (6 - ((u + 1 : Nat) : Int)) + ((u + 1 : Nat) : Int) = 6 := by omega
        have hc0 : 0 ≤ (6 - ((u + 1 : Nat) : Int)) := by omega
        have hc5 : (6 - ((u + 1 : Nat) : Int)) < 6 := by omega
        have hl1 := lay_idx hci hc0 { s with ls := partF 1 (u + 1) s.ls } v1 v2
        have hcn : (6 - ((u + 1 : Nat) : Int)) + 1 = 6 - (u : Int) := by omega
        have HCN := Lib.hid hcn
        have HCI := Lib.hid hci
        have HPS := Lib.hid (part_step 1 u s.ls HTK.out)
        have hpw : 2 ^ (u + 1) = 2 * 2 ^ u := by rw [Nat.pow_succ, Nat.mul_comm]
        have hp5 : 2 ^ u ≤ 2 ^ 5 := Nat.pow_le_pow_right (by decide) (by omega)
        have hrb : 2 ^ (u + 1) * s.ls.words + 1 ≤ 4000 := by
         have h1 := Nat.mul_le_mul hp5 hw40
         rw [hpw, Nat.mul_assoc]
         simp only [show (2 : Nat) ^ 5 = 32 from rfl] at h1
         omega
        have hnx : (((2 ^ (u + 1) * s.ls.words + 1 : Nat) : Int) + 1) / 2 = ((2 ^ u * s.ls.words + 1 : Nat) : Int) := by
         rw [hpw, Nat.mul_assoc]; omega
        have HNX := Lib.hid hnx
        have hcell1 := cell_of_row wr g (2 + (6 - ((u + 1 : Nat) : Int)).toNat) _ _ _ HS.out.row
        rw [hl1.1] at hcell1
        have hfz1 := row_free HS.out.row (2 + (6 - ((u + 1 : Nat) : Int)).toNat)
        have hs3 := HS.out.set_ (2 + (6 - ((u + 1 : Nat) : Int)).toNat) (.int .i64 ((2 ^ (u + 1) * s.ls.words + 1 : Nat) : Int)) _ (hl1.2 _) rfl
        rw [HPS.out] at hs3
        have HS3 := Lib.hid hs3
        have HB3 := Lib.hid (HS.out.set_below HB.out (2 + (6 - ((u + 1 : Nat) : Int)).toNat) (.int .i64 ((2 ^ (u + 1) * s.ls.words + 1 : Nat) : Int)))
        have HF3 := Lib.hid (HF.out.trans (Fr.set g g (2 + (6 - ((u + 1 : Nat) : Int)).toNat) wr (.int .i64 ((2 ^ (u + 1) * s.ls.words + 1 : Nat) : Int))))
        have HU := Lib.hid (show u ≤ 1 by have := HTK.out; omega)
        have hu5 : u ≤ 5 := by omega
        clear hs3 hl1 hci hcn hpw hp5 hnx ht0 ht6
        have hr0 : (0 : Int) ≤ ((2 ^ (u + 1) * s.ls.words + 1 : Nat) : Int) := by omega
        have hr1 : ((2 ^ (u + 1) * s.ls.words + 1 : Nat) : Int) ≤ 4000 := by omega
        have hcu := HCN.out
        have HCU := Lib.hid hcu
        clear hrb hcu
        generalize ((2 ^ (u + 1) * s.ls.words + 1 : Nat) : Int) = rr at *
        generalize (6 - ((u + 1 : Nat) : Int)) = cc at *
        generalize (((partF 1 (u + 1) s.ls).hole (u + 1) : Nat) : Int) = hv at *
        go_wp2
        go_roundw
        case rel => exact ⟨u, by rw [HCU.out], by omega, HU, by rw [HNX.out], HS3, HB3, HF3⟩
        case measure => have := HCU.out; simp [intOf]; omega
   · go_enter Tryz.func78, Tryz.ntmps78
     go_wp2_with fail
     refine HR.out.mono ?_
     rintro e w1 ⟨rfl, hs1, hb1, hf1⟩
     have hs2 := hs1.set_ 0 (.int .i64 ((s.ls.words : Int) + 1)) { s with ls := ⟨s.ls.words + 1, s.ls.hole⟩ } (by simp [layCells]) rfl
     have q0 := hs1.cells.1
     have f0 := row_free hs1.row 0
     have HS2 := Lib.hid hs2
     have HB2 := Lib.hid (hs1.set_below hb1 0 (.int .i64 ((s.ls.words : Int) + 1)))
     have HF2 := Lib.hid (hf1.trans (Fr.set g g 0 w1 (.int .i64 ((s.ls.words : Int) + 1))))
     clear hs1 hb1 hf1 hs2
     go_wp2
     go_loopw [6, 7] (fun rst i wr => ∃ t : Nat, i = .int .i64 (6 - (t : Int)) ∧ t ≤ 6 ∧ Hid (t ≤ 2) ∧ rst = .int .i64 (((2 ^ t * s.ls.words + 1 : Nat)) : Int) ∧ Hid (Sl wr R g v1 v2 { s with ls := partF 2 t s.ls }) ∧ Hid (Below R w wr) ∧ Hid (Fr g g w wr)) (fun _ i _ => (6 - intOf i).toNat)
     case atStart => exact ⟨2, by go_num, by decide, by exact Lib.hid (Nat.le_refl _), by go_num, by rw [part_start]; exact HS2, HB2, HF2⟩
     case round =>
      obtain ⟨t, rfl, ht6, HTK, rfl, HS, HB, HF⟩ := hrel
      by_cases ht0 : t = 0
      · subst ht0
        go_wp2
        go_ret
        rw [DataP, HM.out]
        exact ⟨ret_int (by show _ = ((2 ^ 2 * s.ls.words : Nat) : Int); omega), by have := HS.out; rw [part_end] at this; exact this, HB.out, HF.out⟩
      · obtain ⟨u, rfl⟩ : ∃ u, t = u + 1 := ⟨t - 1, by omega⟩
        have hci : (6 - ((u + 1 : Nat) : Int)) + ((u + 1 : Nat) : Int) = 6 := by omega
        have hc0 : 0 ≤ (6 - ((u + 1 : Nat) : Int)) := by omega
        have hc5 : (6 - ((u + 1 : Nat) : Int)) < 6 := by omega
        have hl1 := lay_idx hci hc0 { s with ls := partF 2 (u + 1) s.ls } v1 v2
        have hcn : (6 - ((u + 1 : Nat) : Int)) + 1 = 6 - (u : Int) := by omega
        have HCN := Lib.hid hcn
        have HCI := Lib.hid hci
        have HPS := Lib.hid (part_step 2 u s.ls HTK.out)
        have hpw : 2 ^ (u + 1) = 2 * 2 ^ u := by rw [Nat.pow_succ, Nat.mul_comm]
        have hp5 : 2 ^ u ≤ 2 ^ 5 := Nat.pow_le_pow_right (by decide) (by omega)
        have hrb : 2 ^ (u + 1) * s.ls.words + 1 ≤ 4000 := by
         have h1 := Nat.mul_le_mul hp5 hw40
         rw [hpw, Nat.mul_assoc]
         simp only [show (2 : Nat) ^ 5 = 32 from rfl] at h1
         omega
        have hnx : (((2 ^ (u + 1) * s.ls.words + 1 : Nat) : Int) + 1) / 2 = ((2 ^ u * s.ls.words + 1 : Nat) : Int) := by
         rw [hpw, Nat.mul_assoc]; omega
        have HNX := Lib.hid hnx
        have hcell1 := cell_of_row wr g (2 + (6 - ((u + 1 : Nat) : Int)).toNat) _ _ _ HS.out.row
        rw [hl1.1] at hcell1
        have hfz1 := row_free HS.out.row (2 + (6 - ((u + 1 : Nat) : Int)).toNat)
        have hs3 := HS.out.set_ (2 + (6 - ((u + 1 : Nat) : Int)).toNat) (.int .i64 ((2 ^ (u + 1) * s.ls.words + 1 : Nat) : Int)) _ (hl1.2 _) rfl
        rw [HPS.out] at hs3
        have HS3 := Lib.hid hs3
        have HB3 := Lib.hid (HS.out.set_below HB.out (2 + (6 - ((u + 1 : Nat) : Int)).toNat) (.int .i64 ((2 ^ (u + 1) * s.ls.words + 1 : Nat) : Int)))
        have HF3 := Lib.hid (HF.out.trans (Fr.set g g (2 + (6 - ((u + 1 : Nat) : Int)).toNat) wr (.int .i64 ((2 ^ (u + 1) * s.ls.words + 1 : Nat) : Int))))
        have HU := Lib.hid (show u ≤ 2 by have := HTK.out; omega)
        have hu5 : u ≤ 5 := by omega
        clear hs3 hl1 hci hcn hpw hp5 hnx ht0 ht6
        have hr0 : (0 : Int) ≤ ((2 ^ (u + 1) * s.ls.words + 1 : Nat) : Int) := by omega
        have hr1 : ((2 ^ (u + 1) * s.ls.words + 1 : Nat) : Int) ≤ 4000 := by omega
        have hcu := HCN.out
        have HCU := Lib.hid hcu
        clear hrb hcu
        generalize ((2 ^ (u + 1) * s.ls.words + 1 : Nat) : Int) = rr at *
        generalize (6 - ((u + 1 : Nat) : Int)) = cc at *
        generalize (((partF 2 (u + 1) s.ls).hole (u + 1) : Nat) : Int) = hv at *
        go_wp2
        go_roundw
        case rel => exact ⟨u, by rw [HCU.out], by omega, HU, by rw [HNX.out], HS3, HB3, HF3⟩
        case measure => have := HCU.out; simp [intOf]; omega
   · go_enter Tryz.func78, Tryz.ntmps78
     go_wp2_with fail
     refine HR.out.mono ?_
     rintro e w1 ⟨rfl, hs1, hb1, hf1⟩
     have hs2 := hs1.set_ 0 (.int .i64 ((s.ls.words : Int) + 1)) { s with ls := ⟨s.ls.words + 1, s.ls.hole⟩ } (by simp [layCells]) rfl
     have q0 := hs1.cells.1
     have f0 := row_free hs1.row 0
     have HS2 := Lib.hid hs2
     have HB2 := Lib.hid (hs1.set_below hb1 0 (.int .i64 ((s.ls.words : Int) + 1)))
     have HF2 := Lib.hid (hf1.trans (Fr.set g g 0 w1 (.int .i64 ((s.ls.words : Int) + 1))))
     clear hs1 hb1 hf1 hs2
     go_wp2
     go_loopw [6, 7] (fun rst i wr => ∃ t : Nat, i = .int .i64 (6 - (t : Int)) ∧ t ≤ 6 ∧ Hid (t ≤ 3) ∧ rst = .int .i64 (((2 ^ t * s.ls.words + 1 : Nat)) : Int) ∧ Hid (Sl wr R g v1 v2 { s with ls := partF 3 t s.ls }) ∧ Hid (Below R w wr) ∧ Hid (Fr g g w wr)) (fun _ i _ => (6 - intOf i).toNat)
     case atStart => exact ⟨3, by go_num, by decide, by exact Lib.hid (Nat.le_refl _), by go_num, by rw [part_start]; exact HS2, HB2, HF2⟩
     case round =>
      obtain ⟨t, rfl, ht6, HTK, rfl, HS, HB, HF⟩ := hrel
      by_cases ht0 : t = 0
      · subst ht0
        go_wp2
        go_ret
        rw [DataP, HM.out]
        exact ⟨ret_int (by show _ = ((2 ^ 3 * s.ls.words : Nat) : Int); omega), by have := HS.out; rw [part_end] at this; exact this, HB.out, HF.out⟩
      · obtain ⟨u, rfl⟩ : ∃ u, t = u + 1 := ⟨t - 1, by omega⟩
        have hci : (6 - ((u + 1 : Nat) : Int)) + ((u + 1 : Nat) : Int) = 6 := by omega
        have hc0 : 0 ≤ (6 - ((u + 1 : Nat) : Int)) := by omega
        have hc5 : (6 - ((u + 1 : Nat) : Int)) < 6 := by omega
        have hl1 := lay_idx hci hc0 { s with ls := partF 3 (u + 1) s.ls } v1 v2
        have hcn : (6 - ((u + 1 : Nat) : Int)) + 1 = 6 - (u : Int) := by omega
        have HCN := Lib.hid hcn
        have HCI := Lib.hid hci
        have HPS := Lib.hid (part_step 3 u s.ls HTK.out)
        have hpw : 2 ^ (u + 1) = 2 * 2 ^ u := by rw [Nat.pow_succ, Nat.mul_comm]
        have hp5 : 2 ^ u ≤ 2 ^ 5 := Nat.pow_le_pow_right (by decide) (by omega)
        have hrb : 2 ^ (u + 1) * s.ls.words + 1 ≤ 4000 := by
         have h1 := Nat.mul_le_mul hp5 hw40
         rw [hpw, Nat.mul_assoc]
         simp only [show (2 : Nat) ^ 5 = 32 from rfl] at h1
         omega
        have hnx : (((2 ^ (u + 1) * s.ls.words + 1 : Nat) : Int) + 1) / 2 = ((2 ^ u * s.ls.words + 1 : Nat) : Int) := by
         rw [hpw, Nat.mul_assoc]; omega
        have HNX := Lib.hid hnx
        have hcell1 := cell_of_row wr g (2 + (6 - ((u + 1 : Nat) : Int)).toNat) _ _ _ HS.out.row
        rw [hl1.1] at hcell1
        have hfz1 := row_free HS.out.row (2 + (6 - ((u + 1 : Nat) : Int)).toNat)
        have hs3 := HS.out.set_ (2 + (6 - ((u + 1 : Nat) : Int)).toNat) (.int .i64 ((2 ^ (u + 1) * s.ls.words + 1 : Nat) : Int)) _ (hl1.2 _) rfl
        rw [HPS.out] at hs3
        have HS3 := Lib.hid hs3
        have HB3 := Lib.hid (HS.out.set_below HB.out (2 + (6 - ((u + 1 : Nat) : Int)).toNat) (.int .i64 ((2 ^ (u + 1) * s.ls.words + 1 : Nat) : Int)))
        have HF3 := Lib.hid (HF.out.trans (Fr.set g g (2 + (6 - ((u + 1 : Nat) : Int)).toNat) wr (.int .i64 ((2 ^ (u + 1) * s.ls.words + 1 : Nat) : Int))))
        have HU := Lib.hid (show u ≤ 3 by have := HTK.out; omega)
        have hu5 : u ≤ 5 := by omega
        clear hs3 hl1 hci hcn hpw hp5 hnx ht0 ht6
        have hr0 : (0 : Int) ≤ ((2 ^ (u + 1) * s.ls.words + 1 : Nat) : Int) := by omega
        have hr1 : ((2 ^ (u + 1) * s.ls.words + 1 : Nat) : Int) ≤ 4000 := by omega
        have hcu := HCN.out
        have HCU := Lib.hid hcu
        clear hrb hcu
        generalize ((2 ^ (u + 1) * s.ls.words + 1 : Nat) : Int) = rr at *
        generalize (6 - ((u + 1 : Nat) : Int)) = cc at *
        generalize (((partF 3 (u + 1) s.ls).hole (u + 1) : Nat) : Int) = hv at *
        go_wp2
        go_roundw
        case rel => exact ⟨u, by rw [HCU.out], by omega, HU, by rw [HNX.out], HS3, HB3, HF3⟩
        case measure => have := HCU.out; simp [intOf]; omega
   · go_enter Tryz.func78, Tryz.ntmps78
     go_wp2_with fail
     refine HR.out.mono ?_
     rintro e w1 ⟨rfl, hs1, hb1, hf1⟩
     have hs2 := hs1.set_ 0 (.int .i64 ((s.ls.words : Int) + 1)) { s with ls := ⟨s.ls.words + 1, s.ls.hole⟩ } (by simp [layCells]) rfl
     have q0 := hs1.cells.1
     have f0 := row_free hs1.row 0
     have HS2 := Lib.hid hs2
     have HB2 := Lib.hid (hs1.set_below hb1 0 (.int .i64 ((s.ls.words : Int) + 1)))
     have HF2 := Lib.hid (hf1.trans (Fr.set g g 0 w1 (.int .i64 ((s.ls.words : Int) + 1))))
     clear hs1 hb1 hf1 hs2
     go_wp2
     go_loopw [6, 7] (fun rst i wr => ∃ t : Nat, i = .int .i64 (6 - (t : Int)) ∧ t ≤ 6 ∧ Hid (t ≤ 4) ∧ rst = .int .i64 (((2 ^ t * s.ls.words + 1 : Nat)) : Int) ∧ Hid (Sl wr R g v1 v2 { s with ls := partF 4 t s.ls }) ∧ Hid (Below R w wr) ∧ Hid (Fr g g w wr)) (fun _ i _ => (6 - intOf i).toNat)
     case atStart => exact ⟨4, by go_num, by decide, by exact Lib.hid (Nat.le_refl _), by go_num, by rw [part_start]; exact HS2, HB2, HF2⟩
     case round =>
      obtain ⟨t, rfl, ht6, HTK, rfl, HS, HB, HF⟩ := hrel
      by_cases ht0 : t = 0
      · subst ht0
        go_wp2
        go_ret
        rw [DataP, HM.out]
        exact ⟨ret_int (by show _ = ((2 ^ 4 * s.ls.words : Nat) : Int); omega), by have := HS.out; rw [part_end] at this; exact this, HB.out, HF.out⟩
      · obtain ⟨u, rfl⟩ : ∃ u, t = u + 1 := ⟨t - 1, by omega⟩
        have hci : (6 - ((u + 1 : Nat) : Int)) + ((u + 1 : Nat) : Int) = 6 := by omega
        have hc0 : 0 ≤ (6 - ((u + 1 : Nat) : Int)) := by omega
        have hc5 : (6 - ((u + 1 : Nat) : Int)) < 6 := by omega
        have hl1 := lay_idx hci hc0 { s with ls := partF 4 (u + 1) s.ls } v1 v2
        have hcn : (6 - ((u + 1 : Nat) : Int)) + 1 = 6 - (u : Int) := by omega
        have HCN := Lib.hid hcn
        have HCI := Lib.hid hci
        have HPS := Lib.hid (part_step 4 u s.ls HTK.out)
        have hpw : 2 ^ (u + 1) = 2 * 2 ^ u := by rw [Nat.pow_succ, Nat.mul_comm]
        have hp5 : 2 ^ u ≤ 2 ^ 5 := Nat.pow_le_pow_right (by decide) (by omega)
        have hrb : 2 ^ (u + 1) * s.ls.words + 1 ≤ 4000 := by
         have h1 := Nat.mul_le_mul hp5 hw40
         rw [hpw, Nat.mul_assoc]
         simp only [show (2 : Nat) ^ 5 = 32 from rfl] at h1
         omega
        have hnx : (((2 ^ (u + 1) * s.ls.words + 1 : Nat) : Int) + 1) / 2 = ((2 ^ u * s.ls.words + 1 : Nat) : Int) := by
         rw [hpw, Nat.mul_assoc]; omega
        have HNX := Lib.hid hnx
        have hcell1 := cell_of_row wr g (2 + (6 - ((u + 1 : Nat) : Int)).toNat) _ _ _ HS.out.row
        rw [hl1.1] at hcell1
        have hfz1 := row_free HS.out.row (2 + (6 - ((u + 1 : Nat) : Int)).toNat)
        have hs3 := HS.out.set_ (2 + (6 - ((u + 1 : Nat) : Int)).toNat) (.int .i64 ((2 ^ (u + 1) * s.ls.words + 1 : Nat) : Int)) _ (hl1.2 _) rfl
        rw [HPS.out] at hs3
        have HS3 := Lib.hid hs3
        have HB3 := Lib.hid (HS.out.set_below HB.out (2 + (6 - ((u + 1 : Nat) : Int)).toNat) (.int .i64 ((2 ^ (u + 1) * s.ls.words + 1 : Nat) : Int)))
        have HF3 := Lib.hid (HF.out.trans (Fr.set g g (2 + (6 - ((u + 1 : Nat) : Int)).toNat) wr (.int .i64 ((2 ^ (u + 1) * s.ls.words + 1 : Nat) : Int))))
        have HU := Lib.hid (show u ≤ 4 by have := HTK.out; omega)
        have hu5 : u ≤ 5 := by omega
        clear hs3 hl1 hci hcn hpw hp5 hnx ht0 ht6
        have hr0 : (0 : Int) ≤ ((2 ^ (u + 1) * s.ls.words + 1 : Nat) : Int) := by omega
        have hr1 : ((2 ^ (u + 1) * s.ls.words + 1 : Nat) : Int) ≤ 4000 := by omega
        have hcu := HCN.out
        have HCU := Lib.hid hcu
        clear hrb hcu
        generalize ((2 ^ (u + 1) * s.ls.words + 1 : Nat) : Int) = rr at *
        generalize (6 - ((u + 1 : Nat) : Int)) = cc at *
        generalize (((partF 4 (u + 1) s.ls).hole (u + 1) : Nat) : Int) = hv at *
        go_wp2
        go_roundw
        case rel => exact ⟨u, by rw [HCU.out], by omega, HU, by rw [HNX.out], HS3, HB3, HF3⟩
        case measure => have := HCU.out; simp [intOf]; omega
   · go_enter Tryz.func78, Tryz.ntmps78
     go_wp2_with fail
     refine HR.out.mono ?_
     rintro e w1 ⟨rfl, hs1, hb1, hf1⟩
     have hs2 := hs1.set_ 0 (.int .i64 ((s.ls.words : Int) + 1)) { s with ls := ⟨s.ls.words + 1, s.ls.hole⟩ } (by simp [layCells]) rfl
     have q0 := hs1.cells.1
     have f0 := row_free hs1.row 0
     have HS2 := Lib.hid hs2
     have HB2 := Lib.hid (hs1.set_below hb1 0 (.int .i64 ((s.ls.words : Int) + 1)))
     have HF2 := Lib.hid (hf1.trans (Fr.set g g 0 w1 (.int .i64 ((s.ls.words : Int) + 1))))
     clear hs1 hb1 hf1 hs2
     go_wp2
     go_loopw [6, 7] (fun rst i wr => ∃ t : Nat, i = .int .i64 (6 - (t : Int)) ∧ t ≤ 6 ∧ Hid (t ≤ 5) ∧ rst = .int .i64 (((2 ^ t * s.ls.words + 1 : Nat)) : Int) ∧ Hid (Sl wr R g v1 v2 { s with ls := partF 5 t s.ls }) ∧ Hid (Below R w wr) ∧ Hid (Fr g g w wr)) (fun _ i _ => (6 - intOf i).toNat)
     case atStart => exact ⟨5, by go_num, by decide, by exact Lib.hid (Nat.le_refl _), by go_num, by rw [part_start]; exact HS2, HB2, HF2⟩
     case round =>
      obtain ⟨t, rfl, ht6, HTK, rfl, HS, HB, HF⟩ := hrel
      by_cases ht0 : t = 0
      · subst ht0
        go_wp2
        go_ret
        rw [DataP, HM.out]
        exact ⟨ret_int (by show _ = ((2 ^ 5 * s.ls.words : Nat) : Int); omega), by have := HS.out; rw [part_end] at this; exact this, HB.out, HF.out⟩
      · obtain ⟨u, rfl⟩ : ∃ u, t = u + 1 := ⟨t - 1, by omega⟩
        have hci : (6 - ((u + 1 : Nat) : Int)) + ((u + 1 : Nat) : Int) = 6 := by omega
        have hc0 : 0 ≤ (6 - ((u + 1 : Nat) : Int)) := by omega
        have hc5 : (6 - ((u + 1 : Nat) : Int)) < 6 := by omega
        have hl1 := lay_idx hci hc0 { s with ls := partF 5 (u + 1) s.ls } v1 v2
        have hcn : (6 - ((u + 1 : Nat) : Int)) + 1 = 6 - (u : Int) := by omega
        have HCN := Lib.hid hcn
        have HCI := Lib.hid hci
        have HPS := Lib.hid (part_step 5 u s.ls HTK.out)
        have hpw : 2 ^ (u + 1) = 2 * 2 ^ u := by rw [Nat.pow_succ, Nat.mul_comm]
        have hp5 : 2 ^ u ≤ 2 ^ 5 := Nat.pow_le_pow_right (by decide) (by omega)
        have hrb : 2 ^ (u + 1) * s.ls.words + 1 ≤ 4000 := by
         have h1 := Nat.mul_le_mul hp5 hw40
         rw [hpw, Nat.mul_assoc]
         simp only [show (2 : Nat) ^ 5 = 32 from rfl] at h1
         omega
        have hnx : (((2 ^ (u + 1) * s.ls.words + 1 : Nat) : Int) + 1) / 2 = ((2 ^ u * s.ls.words + 1 : Nat) : Int) := by
         rw [hpw, Nat.mul_assoc]; omega
        have HNX := Lib.hid hnx
        have hcell1 := cell_of_row wr g (2 + (6 - ((u + 1 : Nat) : Int)).toNat) _ _ _ HS.out.row
        rw [hl1.1] at hcell1
        have hfz1 := row_free HS.out.row (2 + (6 - ((u + 1 : Nat) : Int)).toNat)
        have hs3 := HS.out.set_ (2 + (6 - ((u + 1 : Nat) : Int)).toNat) (.int .i64 ((2 ^ (u + 1) * s.ls.words + 1 : Nat) : Int)) _ (hl1.2 _) rfl
        rw [HPS.out] at hs3
        have HS3 := Lib.hid hs3
        have HB3 := Lib.hid (HS.out.set_below HB.out (2 + (6 - ((u + 1 : Nat) : Int)).toNat) (.int .i64 ((2 ^ (u + 1) * s.ls.words + 1 : Nat) : Int)))
        have HF3 := Lib.hid (HF.out.trans (Fr.set g g (2 + (6 - ((u + 1 : Nat) : Int)).toNat) wr (.int .i64 ((2 ^ (u + 1) * s.ls.words + 1 : Nat) : Int))))
        have HU := Lib.hid (show u ≤ 5 by have := HTK.out; omega)
        have hu5 : u ≤ 5 := by omega
        clear hs3 hl1 hci hcn hpw hp5 hnx ht0 ht6
        have hr0 : (0 : Int) ≤ ((2 ^ (u + 1) * s.ls.words + 1 : Nat) : Int) := by omega
        have hr1 : ((2 ^ (u + 1) * s.ls.words + 1 : Nat) : Int) ≤ 4000 := by omega
        have hcu := HCN.out
        have HCU := Lib.hid hcu
        clear hrb hcu
        generalize ((2 ^ (u + 1) * s.ls.words + 1 : Nat) : Int) = rr at *
        generalize (6 - ((u + 1 : Nat) : Int)) = cc at *
        generalize (((partF 5 (u + 1) s.ls).hole (u + 1) : Nat) : Int) = hv at *
        go_wp2
        go_roundw
        case rel => exact ⟨u, by rw [HCU.out], by omega, HU, by rw [HNX.out], HS3, HB3, HF3⟩
        case measure => have := HCU.out; simp [intOf]; omega
   · go_enter Tryz.func78, Tryz.ntmps78
     go_wp2_with fail
     refine HR.out.mono ?_
     rintro e w1 ⟨rfl, hs1, hb1, hf1⟩
     have hs2 := hs1.set_ 0 (.int .i64 ((s.ls.words : Int) + 1)) { s with ls := ⟨s.ls.words + 1, s.ls.hole⟩ } (by simp [layCells]) rfl
     have q0 := hs1.cells.1
     have f0 := row_free hs1.row 0
     have HS2 := Lib.hid hs2
     have HB2 := Lib.hid (hs1.set_below hb1 0 (.int .i64 ((s.ls.words : Int) + 1)))
     have HF2 := Lib.hid (hf1.trans (Fr.set g g 0 w1 (.int .i64 ((s.ls.words : Int) + 1))))
     clear hs1 hb1 hf1 hs2
     go_wp2
     go_loopw [6, 7] (fun rst i wr => ∃ t : Nat, i = .int .i64 (6 - (t : Int)) ∧ t ≤ 6 ∧ Hid (t ≤ 6) ∧ rst = .int .i64 (((2 ^ t * s.ls.words + 1 : Nat)) : Int) ∧ Hid (Sl wr R g v1 v2 { s with ls := partF 6 t s.ls }) ∧ Hid (Below R w wr) ∧ Hid (Fr g g w wr)) (fun _ i _ => (6 - intOf i).toNat)
     case atStart => exact ⟨6, by go_num, by decide, by exact Lib.hid (Nat.le_refl _), by go_num, by rw [part_start]; exact HS2, HB2, HF2⟩
     case round =>
      obtain ⟨t, rfl, ht6, HTK, rfl, HS, HB, HF⟩ := hrel
      by_cases ht0 : t = 0
      · subst ht0
        go_wp2
        go_ret
        rw [DataP, HM.out]
        exact ⟨ret_int (by show _ = ((2 ^ 6 * s.ls.words : Nat) : Int); omega), by have := HS.out; rw [part_end] at this; exact this, HB.out, HF.out⟩
      · obtain ⟨u, rfl⟩ : ∃ u, t = u + 1 := ⟨t - 1, by omega⟩
        have hci : (6 - ((u + 1 : Nat) : Int)) + ((u + 1 : Nat) : Int) = 6 := by omega
        have hc0 : 0 ≤ (6 - ((u + 1 : Nat) : Int)) := by omega
        have hc5 : (6 - ((u + 1 : Nat) : Int)) < 6 := by omega
        have hl1 := lay_idx hci hc0 { s with ls := partF 6 (u + 1) s.ls } v1 v2
        have hcn : (6 - ((u + 1 : Nat) : Int)) + 1 = 6 - (u : Int) := by omega
        have HCN := Lib.hid hcn
        have HCI := Lib.hid hci
        have HPS := Lib.hid (part_step 6 u s.ls HTK.out)
        have hpw : 2 ^ (u + 1) = 2 * 2 ^ u := by rw [Nat.pow_succ, Nat.mul_comm]
        have hp5 : 2 ^ u ≤ 2 ^ 5 := Nat.pow_le_pow_right (by decide) (by omega)
        have hrb : 2 ^ (u + 1) * s.ls.words + 1 ≤ 4000 := by
         have h1 := Nat.mul_le_mul hp5 hw40
         rw [hpw, Nat.mul_assoc]
         simp only [show (2 : Nat) ^ 5 = 32 from rfl] at h1
         omega
        have hnx : (((2 ^ (u + 1) * s.ls.words + 1 : Nat) : Int) + 1) / 2 = ((2 ^ u * s.ls.words + 1 : Nat) : Int) := by
         rw [hpw, Nat.mul_assoc]; omega
        have HNX := Lib.hid hnx
        have hcell1 := cell_of_row wr g (2 + (6 - ((u + 1 : Nat) : Int)).toNat) _ _ _ HS.out.row
        rw [hl1.1] at hcell1
        have hfz1 := row_free HS.out.row (2 + (6 - ((u + 1 : Nat) : Int)).toNat)
        have hs3 := HS.out.set_ (2 + (6 - ((u + 1 : Nat) : Int)).toNat) (.int .i64 ((2 ^ (u + 1) * s.ls.words + 1 : Nat) : Int)) _ (hl1.2 _) rfl
        rw [HPS.out] at hs3
        have HS3 := Lib.hid hs3
        have HB3 := Lib.hid (HS.out.set_below HB.out (2 + (6 - ((u + 1 : Nat) : Int)).toNat) (.int .i64 ((2 ^ (u + 1) * s.ls.words + 1 : Nat) : Int)))
        have HF3 := Lib.hid (HF.out.trans (Fr.set g g (2 + (6 - ((u + 1 : Nat) : Int)).toNat) wr (.int .i64 ((2 ^ (u + 1) * s.ls.words + 1 : Nat) : Int))))
        have HU := Lib.hid (show u ≤ 6 by have := HTK.out; omega)
        have hu5 : u ≤ 5 := by omega
        clear hs3 hl1 hci hcn hpw hp5 hnx ht0 ht6
        have hr0 : (0 : Int) ≤ ((2 ^ (u + 1) * s.ls.words + 1 : Nat) : Int) := by omega
        have hr1 : ((2 ^ (u + 1) * s.ls.words + 1 : Nat) : Int) ≤ 4000 := by omega
        have hcu := HCN.out
        have HCU := Lib.hid hcu
        clear hrb hcu
        generalize ((2 ^ (u + 1) * s.ls.words + 1 : Nat) : Int) = rr at *
        generalize (6 - ((u + 1 : Nat) : Int)) = cc at *
        generalize (((partF 6 (u + 1) s.ls).hole (u + 1) : Nat) : Int) = hv at *
        go_wp2
        go_roundw
        case rel => exact ⟨u, by rw [HCU.out], by omega, HU, by rw [HNX.out], HS3, HB3, HF3⟩
        case measure => have := HCU.out; simp [intOf]; omega
theorem infoInt : (Tryz.prog.info? intT).map (fun i => (i.zero, i.size, i.bytes)) = some (some (.int .i64 0), 1, 8) := by kernel_rfl
theorem row_at1 {w : World} {B e n : Nat} {v : Value} {xs : List Value} (h : w.ownsRow B e 1 v n xs) {k : Nat} (hk : k < n) {u : Value} (hu : xs[k]? = some u) : ∃ x cap, v = .slice (some x) n cap ∧ w.cell? (x.add k) = some u := by
 rcases h.2 with ⟨rfl, h0⟩ | ⟨g, cap, cur, rfl, _, hg, _⟩
 · omega
 · exact ⟨_, cap, rfl, h.cells (g := g) rfl k _ hu⟩
theorem placeCells_at (l : List (Nat × Nat)) (k : Nat) (h : k < l.length) : (placeCells l)[k]? = some (.int .i64 ((l[k]).2 : Int)) := by simp [placeCells, List.getElem?_eq_getElem h]
theorem scaleCells_at (l : List (Nat × Nat)) (k : Nat) (h : k < l.length) : (scaleCells l)[k]? = some (.int .i64 (6 - ((l[k]).1 : Int))) := by simp [scaleCells, List.getElem?_eq_getElem h]
structure SlG (w : World) (R g : Nat) (v1 v2 : Value) (s : PS) (n1 : Nat) (P : List Value) (n2 : Nat) (S : List Value) : Prop where
 row : w.heap[g]? = some (.cells (layCells s v1 v2) layT (0, 0))
 rg : R ≤ g
 place : w.ownsRow R intT 1 v1 n1 P
 scale : w.ownsRow R intT 1 v2 n2 S
 ne : v1.ownBlock = none ∨ v1.ownBlock ≠ v2.ownBlock
theorem SlG.rs {w : World} {R g n1 n2 : Nat} {v1 v2 : Value} {s : PS} {P S : List Value} (h : SlG w R g v1 v2 s n1 P n2 S) : R ≤ w.heap.size := Nat.le_of_lt (Nat.lt_of_le_of_lt h.rg (row_lt h.row))
theorem Sl.gen {w : World} {R g : Nat} {v1 v2 : Value} {s : PS} (h : Sl w R g v1 v2 s) : SlG w R g v1 v2 s s.shared.length (placeCells s.shared) s.shared.length (scaleCells s.shared) := ⟨h.row, h.rg, h.place, h.scale, h.ne⟩
theorem grown_row_lay {w w6 : World} {g n1 : Nat} {R : Nat} {v : Value} {P : List Value} {cs : Array Value} {o : Obj} (hr : w.heap[g]? = some (.cells cs layT (0, 0))) (hv : w.ownsRow R intT 1 v n1 P) (hg : (w.alloc o).grownBy w6 v.ownBlock) :
 w6.heap[g]? = some (.cells cs layT (0, 0)) :=
 (hg.block g (by have := row_lt hr; simp; omega) (fun e => own_ne_blk hv hr (by decide) e.symm)).trans ((Below.heap_alloc w o g (row_lt hr)).trans hr)
theorem SlG.app1 {w w6 : World} {R g n1 n2 : Nat} {v1 v2 v' : Value} {s : PS} {P S Q : List Value} {o : Obj} (h : SlG w R g v1 v2 s n1 P n2 S) (hg : (w.alloc o).grownBy w6 v1.ownBlock) (hv : w6.ownsRow R intT 1 v' (n1 + 1) Q) (hl : v'.ownBlock = v1.ownBlock ∨ v'.ownBlock = some (w.alloc o).heap.size) :
 SlG (w6.setCell ⟨g, 10, none⟩ v') R g v' v2 s (n1 + 1) Q n2 S ∧ Below R w (w6.setCell ⟨g, 10, none⟩ v') := by
 have hrow := grown_row_lay h.row h.place hg
 have hs := grown_set w6 g 10 v'
 have hgn : w.grownBy w6 v1.ownBlock := (World.grownBy_alloc w o _).trans hg
 have hsc : w6.ownsRow R intT 1 v2 n2 S := by
  refine h.scale.kept hgn ?_
  rcases h.ne with hn | hn
  · rw [hn]; cases hv1 : v2.ownBlock <;> simp
  · exact .inr (fun e => hn e.symm)
 refine ⟨⟨?_, h.rg, hv.kept hs (.inr (own_ne_blk hv hrow (by decide))), hsc.kept hs (.inr (own_ne_blk hsc hrow (by decide))), ?_⟩, ?_⟩
 · rw [row_set hrow]; rfl
 · rcases hl with hl | hl
   · rw [hl]; exact h.ne
   · rw [hl]
     refine .inr (fun e => ?_)
     have := (h.scale.lt _ e.symm).2
     simp at this
     omega
 · exact (grown_below h.rs h.place hg).setCell (p := ⟨g, 10, none⟩) h.rg _
theorem SlG.app2 {w w6 : World} {R g n1 n2 : Nat} {v1 v2 v' : Value} {s : PS} {P S Q : List Value} {o : Obj} (h : SlG w R g v1 v2 s n1 P n2 S) (hg : (w.alloc o).grownBy w6 v2.ownBlock) (hv : w6.ownsRow R intT 1 v' (n2 + 1) Q) (hl : v'.ownBlock = v2.ownBlock ∨ v'.ownBlock = some (w.alloc o).heap.size) :
 SlG (w6.setCell ⟨g, 11, none⟩ v') R g v1 v' s n1 P (n2 + 1) Q ∧ Below R w (w6.setCell ⟨g, 11, none⟩ v') := by
 have hrow := grown_row_lay h.row h.scale hg
 have hs := grown_set w6 g 11 v'
 have hgn : w.grownBy w6 v2.ownBlock := (World.grownBy_alloc w o _).trans hg
 have hpl : w6.ownsRow R intT 1 v1 n1 P := h.place.kept hgn h.ne
 refine ⟨⟨?_, h.rg, hpl.kept hs (.inr (own_ne_blk hpl hrow (by decide))), hv.kept hs (.inr (own_ne_blk hv hrow (by decide))), ?_⟩, ?_⟩
 · rw [row_set hrow]; rfl
 · rcases hl with hl | hl
   · rw [hl]; exact h.ne
   · rw [hl]
     refine .inr (fun e => ?_)
     have := (h.place.lt _ e).2
     simp at this
     omega
 · exact (grown_below h.rs h.scale hg).setCell (p := ⟨g, 11, none⟩) h.rg _
theorem SlG.back {w : World} {R g : Nat} {v1 v2 : Value} {s : PS} {r : Nat × Nat} (h : SlG w R g v1 v2 s (s.shared.length + 1) (placeCells s.shared ++ [.int .i64 (r.2 : Int)]) (s.shared.length + 1) (scaleCells s.shared ++ [.int .i64 (6 - (r.1 : Int))])) :
 Sl w R g v1 v2 { s with shared := s.shared ++ [r] } := by
 refine ⟨h.row, h.rg, ?_, ?_, h.ne⟩
 · have := h.place
   simpa [placeCells] using this
 · have := h.scale
   simpa [scaleCells] using this
def FrS (g : Nat) (v1 v2 : Value) (w w' : World) : Prop := w.heap.size ≤ w'.heap.size ∧ ∀ b, b < w.heap.size → b ≠ g → some b ≠ v1.ownBlock → some b ≠ v2.ownBlock → w'.heap[b]? = w.heap[b]?
theorem FrS.trans {g : Nat} {v1 v2 : Value} {a b c : World} (h : FrS g v1 v2 a b) (k : FrS g v1 v2 b c) : FrS g v1 v2 a c := ⟨Nat.le_trans h.1 k.1, fun x hx h1 h2 h3 => (k.2 x (Nat.lt_of_lt_of_le hx h.1) h1 h2 h3).trans (h.2 x hx h1 h2 h3)⟩
theorem FrS.refl (g : Nat) (v1 v2 : Value) (w : World) : FrS g v1 v2 w w := ⟨Nat.le_refl _, fun _ _ _ _ _ => rfl⟩
theorem FrS.of_fr {g : Nat} {v1 v2 : Value} {w w' : World} (h : Fr g g w w') : FrS g v1 v2 w w' := ⟨h.1, fun b hb h1 _ _ => h.2 b hb h1 h1⟩
theorem FrS.set (g i : Nat) (v1 v2 : Value) (w : World) (u : Value) : FrS g v1 v2 w (w.setCell ⟨g, i, none⟩ u) := FrS.of_fr (Fr.set g g i w u)
theorem FrS.alloc (g : Nat) (v1 v2 : Value) (w : World) (o : Obj) : FrS g v1 v2 w (w.alloc o) := ⟨by simp, fun b hb _ _ _ => Below.heap_alloc w o b hb⟩
theorem FrS.grown1 {g : Nat} {v1 v2 : Value} {w w' : World} {o : Obj} (h : (w.alloc o).grownBy w' v1.ownBlock) : FrS g v1 v2 w w' := (FrS.alloc g v1 v2 w o).trans ⟨h.size, fun b hb _ h1 _ => h.block b hb h1⟩
theorem FrS.grown2 {g : Nat} {v1 v2 : Value} {w w' : World} {o : Obj} (h : (w.alloc o).grownBy w' v2.ownBlock) : FrS g v1 v2 w w' := (FrS.alloc g v1 v2 w o).trans ⟨h.size, fun b hb _ _ h2 => h.block b hb h2⟩
theorem FrS.drewN (g : Nat) (v1 v2 : Value) (w : World) (n : Nat) : FrS g v1 v2 w (w.drewN n) := ⟨Nat.le_refl _, fun _ _ _ _ _ => rfl⟩
def SChP (R g : Nat) (u1 u2 : Value) (a : Nat) (s' : PS) (w : World) (e : Ending) (w' : World) : Prop := ∃ v1 v2, e = .returned (.int .i64 (a : Int)) ∧ Sl w' R g v1 v2 s' ∧ Below R w w' ∧ FrS g u1 u2 w w'
theorem choice_any (R g : Nat) (v1 v2 : Value) (s : PS) (hbd : LBd 40 s.ls) (hsl : s.shared.length ≤ 1000) (hsb : ∀ r ∈ s.shared, r.1 ≤ 6 ∧ r.2 ≤ 100000) (kd : Nat) (c : Int) (hc : c + kd = 6) (hkd : kd ≤ 6) (w : World) (h : Sl w R g v1 v2 s) :
 Calls Tryz.prog 79 #[.pointer (some ⟨g, 0, none⟩), .int .i64 c] w (SChP R g v1 v2 (shareF kd s).1 (shareF kd s).2 w) := by
 obtain ⟨i0, hi, hz0, hz1, hz2⟩ := info_parts infoInt
 have HH := Lib.hid h
 have HBD := Lib.hid hbd
 have HSB := Lib.hid hsb
 have HC := Lib.hid hc
 have hc0' : 0 ≤ c := by omega
 have hc6' : c ≤ 6 := by omega
 obtain ⟨A1, cp1, rfl⟩ := own_slice2 h.place
 obtain ⟨A2, cp2, rfl⟩ := own_slice2 h.scale
 clear h hbd hsb hc
 go_enter Tryz.func79, Tryz.ntmps79
 go_wp2
 go_loopw [5] (fun i wr => ∃ k : Nat, i = .int .i64 k ∧ k ≤ s.shared.length ∧ Hid (∀ j (hj : j < s.shared.length), j < k → kd < (s.shared[j]).1) ∧ Hid (Sl wr R g (.slice A1 s.shared.length cp1) (.slice A2 s.shared.length cp2) s) ∧ Hid (Below R w wr) ∧ Hid (FrS g (.slice A1 s.shared.length cp1) (.slice A2 s.shared.length cp2) w wr)) (fun i _ => s.shared.length - (intOf i).toNat)
 case atStart => exact ⟨0, rfl, by omega, by exact Lib.hid (fun j _ hj => absurd hj (Nat.not_lt_zero _)), by exact HH, by exact Lib.hid (Below.refl _ _), by exact Lib.hid (FrS.refl _ _ _ _)⟩
 case round =>
  obtain ⟨k, rfl, hk, HN, HP, HB, HFS⟩ := hrel
  have q10 := HP.out.cells.2.2.2.2.2.2.2.2.2.2.1
  by_cases hlt : k < s.shared.length
  · have q11 := HP.out.cells.2.2.2.2.2.2.2.2.2.2.2.1
    obtain ⟨x1, cc1, hx1, p1⟩ := row_at1 HP.out.place hlt (placeCells_at _ k hlt)
    obtain ⟨x2, cc2, hx2, p2⟩ := row_at1 HP.out.scale hlt (scaleCells_at _ k hlt)
    obtain ⟨rfl, -⟩ : A1 = some x1 ∧ cp1 = cc1 := by injection hx1 with e1 e2 e3; exact ⟨e1, e3⟩
    obtain ⟨rfl, -⟩ : A2 = some x2 ∧ cp2 = cc2 := by injection hx2 with e1 e2 e3; exact ⟨e1, e3⟩
    clear hx1 hx2
    have hr := HSB.out s.shared[k] (List.getElem_mem hlt)
    have HNX : Hid (∀ j, j < k → ∀ (hj : j < s.shared.length), kd < (s.shared[j]).1) := Lib.hid (fun j hjk hj => HN.out j hj hjk)
    obtain ⟨d, hd⟩ : ∃ d, d = s.shared[k] := ⟨_, rfl⟩
    rw [← hd] at p1 p2 hr
    have HDD := Lib.hid hd
    clear hd
    obtain ⟨dk, da⟩ := d
    obtain ⟨hr1, hr2⟩ := hr
    have hk2 : (k : Int) < (s.shared.length : Int) := by omega
    by_cases hle : dk ≤ kd
    · have HE : Hid (shareF kd s = (da * 2 ^ (kd - dk), s)) := by
       refine Lib.hid ?_
       rw [share_hit hlt (fun j hj => HNX.out j hj _) (by rw [← HDD.out]; exact hle), ← HDD.out]
      have hge : c ≤ 6 - (dk : Int) := by have := HC.out; omega
      have hsub : (6 - (dk : Int)) - c = ((kd - dk : Nat) : Int) := by have := HC.out; omega
      have hkd6 : kd - dk ≤ 6 := by omega
      have hsc : 6 - (dk : Int) ≤ 6 := by omega
      have hsc0 : 0 ≤ 6 - (dk : Int) := by omega
      have hda : (da : Int) ≤ 100000 := by omega
      generalize (6 - (dk : Int)) = sc at p2 hge hsub hsc hsc0
      have hdd : kd - dk = 0 ∨ kd - dk = 1 ∨ kd - dk = 2 ∨ kd - dk = 3 ∨ kd - dk = 4 ∨ kd - dk = 5 ∨ kd - dk = 6 := by omega
      clear hle hr1 hr2
      generalize kd - dk = d at HE hsub hkd6 hdd
      rcases hdd with rfl | rfl | rfl | rfl | rfl | rfl | rfl
      all_goals
       simp only [Int.cast_ofNat_Int] at hsub
       have hwr : IntKind.i64.wrap (sc - c) = sc - c := IntWalk.i64_in _ (by omega)
       go_wp2
       go_quiet (fail)
       go_wp2
       go_ret
       rw [SChP, HE.out]
       exact ⟨_, _, ret_int (by show _ = ((da * 2 ^ _ : Nat) : Int); omega), HP.out.below (drewN_below _ _ _), HB.out.trans (drewN_below _ _ _), HFS.out.trans (FrS.drewN _ _ _ _ _)⟩
    · have hlt2 : 6 - (dk : Int) < c := by have := HC.out; omega
      have HNN : Hid (∀ j (hj : j < s.shared.length), j < k + 1 → kd < (s.shared[j]).1) := by
       refine Lib.hid (fun j hj hjk => ?_)
       by_cases e : j = k
       · subst e
         rw [← HDD.out]; exact Nat.lt_of_not_le hle
       · exact HN.out j hj (by omega)
      clear hle
      go_wp2
      go_roundw
      case rel => exact ⟨k + 1, by go_num, by omega, HNN, HP, HB, HFS⟩
      case measure => simp [intOf]; omega
  · obtain rfl : k = s.shared.length := by omega
    have HE : Hid (shareF kd s = ((roomF kd s.ls).1, { s with ls := (roomF kd s.ls).2, shared := s.shared ++ [(kd, (roomF kd s.ls).1)] })) := by
     refine Lib.hid (share_miss ?_)
     intro r hr
     obtain ⟨j, hj, rfl⟩ := List.getElem_of_mem hr
     exact HN.out j hj hj
    have HDT := Lib.hid (data_any R g _ _ s HBD.out kd c wr HC.out hkd HP.out)
    have hwr := HP.out.rs
    clear hlt hk
    go_wp2_with fail
    refine HDT.out.mono ?_
    rintro e w1 ⟨rfl, hs1, hb1, hf1⟩
    have HFS1 := Lib.hid (HFS.out.trans (FrS.of_fr hf1))
    clear hf1
    have r10 := hs1.cells.2.2.2.2.2.2.2.2.2.2.1
    have HG1 := Lib.hid hs1.gen
    have HB1 := Lib.hid (HB.out.trans hb1)
    have hr1 := hs1.rs
    clear hs1 hb1 q10
    go_wp2_with (first
     | (at_builtin; refine wpList_append_own_at _ rfl (.tmp 49) (.tmp 51) 97 rfl R intT i0 (.int .i64 0) 1 8 Tryz.underlying97 hi hz0 hz1 hz2 rfl (by decide) (.slice A1 s.shared.length cp1) s.shared.length _ rfl (HG1.out.place.alloc _) ⟨w1.heap.size, 0, none⟩ 1 1 [.int .i64 ((roomF kd s.ls).1 : Int)] rfl rfl (cell_one_new _ _ _) (by simp [Value.oneCell']) (by unfold maxLen; omega) (by omega) (by simp; omega) ?_; intro v' w6 hown6 hgrow6 _ hloc6; obtain ⟨A', cap', rfl⟩ := own_slice2 hown6; have r6 := grown_row_lay HG1.out.row HG1.out.place hgrow6; have f6' := row_free r6 10; have c6' : w6.cell? ⟨g, 10, none⟩ = some (.slice A1 s.shared.length cp1) := (by rw [cell_of_row _ _ _ _ _ _ r6]; rfl); have c6'' : w6.cell? ⟨g, 11, none⟩ = some (.slice A2 s.shared.length cp2) := (by rw [cell_of_row _ _ _ _ _ _ r6]; rfl); have hg2 := HG1.out.app1 hgrow6 hown6 hloc6; have hr2 := hg2.1.rs; have HG2 := Lib.hid hg2.1; have HB2 := Lib.hid (HB1.out.trans hg2.2); have HFS2 := Lib.hid ((HFS1.out.trans (FrS.grown1 hgrow6)).trans (FrS.set g 10 _ _ w6 (.slice A' (s.shared.length + 1) cap'))); clear r6 hown6 hgrow6 hloc6 hg2)
     | (at_builtin; refine wpList_append_own_at _ rfl (.tmp 59) (.tmp 61) 97 rfl R intT i0 (.int .i64 0) 1 8 Tryz.underlying97 hi hz0 hz1 hz2 rfl (by decide) (.slice A2 s.shared.length cp2) s.shared.length _ rfl (HG2.out.scale.alloc _) ⟨w6.heap.size, 0, none⟩ 1 1 [.int .i64 c] rfl rfl (by have := cell_one_new (w6.setCell ⟨g, 10, none⟩ (.slice A' (s.shared.length + 1) cap')) (.int .i64 c) intT; rw [show (w6.setCell ⟨g, 10, none⟩ (.slice A' (s.shared.length + 1) cap')).heap.size = w6.heap.size by simp [World.setCell]] at this; exact this) (by simp [Value.oneCell']) (by unfold maxLen; omega) (by omega) (by simp; simp at hr2; omega) ?_; intro v'' w7 hown7 hgrow7 _ hloc7; obtain ⟨A'', cap'', rfl⟩ := own_slice2 hown7; have r7 := grown_row_lay HG2.out.row HG2.out.scale hgrow7; have f7' := row_free r7 11; have c7' : w7.cell? ⟨g, 11, none⟩ = some (.slice A2 s.shared.length cp2) := (by rw [cell_of_row _ _ _ _ _ _ r7]; rfl); have hg3 := HG2.out.app2 hgrow7 hown7 hloc7; have HG3 := Lib.hid hg3.1; have HB3 := Lib.hid (HB2.out.trans hg3.2); have HFS3 := Lib.hid ((HFS2.out.trans (FrS.grown2 hgrow7)).trans (FrS.set g 11 _ _ w7 (.slice A'' (s.shared.length + 1) cap''))); clear r7 hown7 hgrow7 hloc7 hg3))
    go_ret
    have hcr : c = 6 - (kd : Int) := by have := HC.out; omega
    rw [SChP, HE.out]
    refine ⟨.slice A' (s.shared.length + 1) cap', .slice A'' (s.shared.length + 1) cap'', rfl, ?_, HB3.out, HFS3.out⟩
    have := HG3.out
    rw [hcr] at this
    exact SlG.back (r := (kd, (roomF kd s.ls).1)) this
end Go.Proofs.YtehhbbdaeonebaaGreatDoor
