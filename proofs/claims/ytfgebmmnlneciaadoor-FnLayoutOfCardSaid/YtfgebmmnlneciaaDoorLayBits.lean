/- The program's LayoutBits. -/
import Derived.Test.YtfgebmmnlneciaaDoorLayI2
namespace Go.Proofs.YtfgebmmnlneciaaDoor
open Go.RowKit
def fld0 : Fld := ⟨0, false, 0⟩
def layBits (l : List Fld) (i : Int) : Int × Int :=
  if fldsOk l = true ∧ withB i l.length = true ∧ (l.getD i.toNat fld0).size ≠ 6 then
    (((layF l ps0).1.getD i.toNat 0 : Int) * bitsOf (l.getD i.toNat fld0).size, ((layF l ps0).1.getD i.toNat 0 : Int) * bitsOf (l.getD i.toNat fld0).size + bitsOf (l.getD i.toNat fld0).size)
  else (0, 0)
def BitsP (l : List Fld) (i : Int) (w : World) (e : Ending) (w' : World) : Prop :=
  e = .returned (.tuple #[.int .i64 (layBits l i).1, .int .i64 (layBits l i).2]) ∧ Below w.heap.size w w'
theorem slots_at {w : World} {B : Nat} {A : Option Addr} {cap n : Nat} {l : List Nat} (h : w.ownsRow B slotT 1 (.slice A n cap) l.length (slotCells l)) {k : Nat} (hk : k < l.length) :
    n = l.length ∧ ∃ x, A = some x ∧ w.cell? (x.add k) = some (.int .i64 ((l.getD k 0 : Nat) : Int)) := by
  rcases h.2 with ⟨e, h0⟩ | ⟨g, cap', cur, e, _, hg, _⟩
  · omega
  · injection e with e1 e2 e3
    subst e1 e2
    refine ⟨rfl, _, rfl, ?_⟩
    refine h.cells (g := g) rfl k _ ?_
    rw [slotCells, List.getElem?_map, List.getElem?_eq_getElem hk, List.getD, List.getElem?_eq_getElem hk]
    rfl
theorem bitsAll_of {z : Int} (h : z ≠ 6) : bitsAll z = bitsOf z := by unfold bitsAll; rw [if_neg h]
theorem bitsOf_bd (z : Int) : 0 ≤ bitsOf z ∧ bitsOf z ≤ 64 := by unfold bitsOf; split <;> (try split) <;> (try split) <;> (try split) <;> (try split) <;> omega
theorem mul_bd {a b : Int} (h0 : 0 ≤ a) (h1 : a ≤ 2000) (h2 : 0 ≤ b) (h3 : b ≤ 64) : 0 ≤ a * b ∧ a * b ≤ 128000 := by
  refine ⟨Int.mul_nonneg h0 h2, ?_⟩
  have := Int.mul_le_mul h1 h3 h2 (by omega : (0 : Int) ≤ 2000)
  omega
theorem getD_lt {l : List Fld} {k : Nat} (h : k < l.length) : l.getD k fld0 = l[k] := by simp [List.getD, List.getElem?_eq_getElem h]
set_option maxHeartbeats 8000000 in
set_option maxRecDepth 100000 in
theorem implLayoutBits_any (A : Option Addr) (c : Nat) (l : List Fld) (i : Int) (w : World) (ht : Tab w) (h1w : 1 < w.heap.size) (h : Flds w A l) (hl : l.length ≤ 10000000) :
    Calls Tryd.prog 21 #[.slice A l.length c, .int .i64 i] w (BitsP l i w) := by
  have HLO := Lib.hid (implLayoutOf_any A c l w ht h1w h hl)
  have HF := Lib.hid h
  clear h ht
  cases hok : fldsOk l with
  | false =>
    have HX : Hid (layBits l i = (0, 0)) := Lib.hid (by unfold layBits; rw [if_neg (by simp [hok])])
    have HOK := Lib.hid hok
    clear hok
    go_enter Tryd.func21, Tryd.ntmps21
    go_wp2_with fail
    refine HLO.out.mono ?_
    rintro e w1 (⟨hh, _⟩ | ⟨-, rfl, hb1⟩)
    · rw [HOK.out] at hh; cases hh
    have HB1 := Lib.hid hb1
    have hs1 := hb1.size
    clear hb1
    go_wp2
    go_ret2
    rw [BitsP, HX.out]
    exact ⟨rfl, HB1.out.alloc hs1 _⟩
  | true =>
    have HOK := Lib.hid hok
    have hl12 := fldsOk_len hok
    cases hw : withB i l.length with
    | false =>
      have HX : Hid (layBits l i = (0, 0)) := Lib.hid (by unfold layBits; rw [if_neg (by simp [hw])])
      clear hok
      have HW := Lib.hid hw
      clear hw
      go_enter Tryd.func21, Tryd.ntmps21
      go_wp2_with fail
      refine HLO.out.mono ?_
      rintro e w1 (⟨-, v1, rfl, hv1, hb1⟩ | ⟨hh, _⟩)
      rotate_left
      · rw [HOK.out] at hh; cases hh
      have HB1 := Lib.hid hb1
      have hs1 := hb1.size
      obtain ⟨A1, cp1, rfl⟩ := own_slice2 hv1
      clear hb1 hv1
      simp only [layV]
      go_wp2_with (go_at_call 37; go_must (refine (within_any _ _ _).mono ?_); rintro e w2 ⟨rfl, rfl⟩; rw [HW.out])
      go_ret2
      rw [BitsP, HX.out]
      exact ⟨rfl, HB1.out.alloc hs1 _⟩
    | true =>
      have hib : 0 ≤ i ∧ i < l.length := by simpa [withB] using hw
      have HW := Lib.hid hw
      clear hw
      obtain ⟨k, rfl⟩ := Int.eq_ofNat_of_zero_le hib.1
      have hk : k < l.length := by omega
      have hk2 : (k : Int) < (l.length : Int) := by omega
      have hsz := fldsOk_at hok k hk
      by_cases h6 : (l[k]).size = 6
      · have HX : Hid (layBits l k = (0, 0)) := Lib.hid (by unfold layBits; rw [if_neg (by rw [Int.toNat_natCast, getD_lt hk]; simp [h6])])
        have H6 := Lib.hid h6
        clear hok hib hsz h6
        go_enter Tryd.func21, Tryd.ntmps21
        go_wp2_with fail
        refine HLO.out.mono ?_
        rintro e w1 (⟨-, v1, rfl, hv1, hb1⟩ | ⟨hh, _⟩)
        rotate_left
        · rw [HOK.out] at hh; cases hh
        have HB1 := Lib.hid hb1
        have hs1 := hb1.size
        obtain ⟨A1, cp1, rfl⟩ := own_slice2 hv1
        obtain ⟨x, rfl, hx⟩ := ((HF.out.below hb1).below (w' := w1.alloc (.cells #[.int .i64 ((layF l ps0).2.ls.words : Int), .int .i64 ((layF l ps0).2.ptrs : Int), .slice A1 l.length cp1, .int .i64 (layF l ps0).2.tag] 26)) ((Below.refl _ _).alloc (Nat.le_refl _) _)).at_ hk
        have q0 := hx.c0
        rw [H6.out] at q0
        clear hb1 hv1 hx
        simp only [layV]
        go_wp2_with (go_at_call 37; go_must (refine (within_any _ _ _).mono ?_); rintro e w2 ⟨rfl, rfl⟩; rw [HW.out])
        go_ret2
        rw [BitsP, HX.out]
        exact ⟨rfl, HB1.out.alloc hs1 _⟩
      · have HX : Hid (layBits l k = (((layF l ps0).1.getD k 0 : Int) * bitsOf (l[k]).size, ((layF l ps0).1.getD k 0 : Int) * bitsOf (l[k]).size + bitsOf (l[k]).size)) := Lib.hid (by
          unfold layBits
          rw [if_pos (by rw [Int.toNat_natCast, getD_lt hk]; exact ⟨hok, HW.out, h6⟩), Int.toNat_natCast, getD_lt hk])
        have hle : (layF l ps0).1.getD k 0 ≤ 2000 := by
          refine lay_bd_at l pbd0 (by omega) _ ?_
          rw [List.getD, List.getElem?_eq_getElem (by rw [lay_length]; exact hk)]
          exact List.getElem_mem _
        have HLL := Lib.hid (lay_length l ps0)
        clear hok hib
        go_enter Tryd.func21, Tryd.ntmps21
        go_wp2_with fail
        refine HLO.out.mono ?_
        rintro e w1 (⟨-, v1, rfl, hv1, hb1⟩ | ⟨hh, _⟩)
        rotate_left
        · rw [HOK.out] at hh; cases hh
        have HB1 := Lib.hid hb1
        have hs1 := hb1.size
        obtain ⟨A1, cp1, rfl⟩ := own_slice2 hv1
        obtain ⟨x, rfl, hx⟩ := ((HF.out.below hb1).below (w' := w1.alloc (.cells #[.int .i64 ((layF l ps0).2.ls.words : Int), .int .i64 ((layF l ps0).2.ptrs : Int), .slice A1 l.length cp1, .int .i64 (layF l ps0).2.tag] 26)) ((Below.refl _ _).alloc (Nat.le_refl _) _)).at_ hk
        have hsa := hv1.alloc (.cells #[.int .i64 ((layF l ps0).2.ls.words : Int), .int .i64 ((layF l ps0).2.ptrs : Int), .slice A1 l.length cp1, .int .i64 (layF l ps0).2.tag] 26)
        rw [← HLL.out] at hsa
        obtain ⟨-, y, rfl, hy⟩ := slots_at (k := k) (by rw [HLL.out] at hsa ⊢; exact hsa) (by rw [HLL.out]; exact hk)
        have q0 := hx.c0
        have hz6 : ((l[k]).size == 6) = false := by simpa using h6
        have hbo := bitsAll_of h6
        have hbb := bitsOf_bd (l[k]).size
        have hmb := mul_bd (a := ((layF l ps0).1.getD k 0 : Int)) (by omega) (by omega) hbb.1 hbb.2
        obtain ⟨hz1', hz6'⟩ := hsz
        clear hb1 hv1 hx hsa h6
        generalize (l[k]).size = z at *
        generalize (layF l ps0).1.getD k 0 = a at *
        have HBO := Lib.hid hbo
        have hz0' : 0 ≤ z := by omega
        clear hbo
        simp only [layV]
        go_wp2_with (first | (go_at_call 37; go_must (refine (within_any _ _ _).mono ?_); rintro e w2 ⟨rfl, rfl⟩; rw [HW.out]) | (go_at_call 38; go_must (refine (sizeBits_any z _ hz0' hz6').mono ?_); rintro e w2 ⟨rfl, rfl⟩; rw [HBO.out]))
        go_ret2
        rw [BitsP, HX.out]
        exact ⟨rfl, HB1.out.alloc hs1 _⟩
end Go.Proofs.YtfgebmmnlneciaaDoor
