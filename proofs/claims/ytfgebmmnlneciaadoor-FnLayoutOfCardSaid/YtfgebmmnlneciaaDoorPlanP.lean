/- The program's pointers' places, and the beginning of a room. -/
import Derived.Test.YtfgebmmnlneciaaDoorPlanS
import Derived.Test.YtfgebmmnlneciaaDoorScale
namespace Go.Proofs.YtfgebmmnlneciaaDoor
open Go.RowKit
theorem Pl.drew {w : World} {R g bm : Nat} {v1 v2 : Value} {s : PS} {sl : List Nat} {N : Nat} (h : Pl w R g bm v1 v2 s sl N) : Pl w.drew R g bm v1 v2 s sl N := ⟨h.row, h.rg, h.rb, h.slots, h.shared, h.holes⟩
theorem Pl.alloc {w : World} {R g bm : Nat} {v1 v2 : Value} {s : PS} {sl : List Nat} {N : Nat} (h : Pl w R g bm v1 v2 s sl N) (o : Obj) : Pl (w.alloc o) R g bm v1 v2 s sl N := h.below ((Below.refl _ _).alloc (Nat.le_refl _) o)
/-- what a place in a plan leaves. -/
def PlaceP (R g bm : Nat) (v1 v2 : Value) (a : Nat) (s' : PS) (sl : List Nat) (N : Nat) (w : World) (e : Ending) (w' : World) : Prop :=
  e = .returned (.int .i64 (a : Int)) ∧ Pl w' R g bm v1 v2 s' sl N ∧ Below R w w'
set_option maxHeartbeats 1000000 in
theorem nextPointer_any (R g bm : Nat) (v1 v2 : Value) (s : PS) (sl : List Nat) (N : Nat) (hp : s.ptrs ≤ 1000) (w : World) (h : Pl w R g bm v1 v2 s sl N) :
    Calls Tryd.prog 49 #[.pointer (some ⟨g, 0, none⟩)] w (PlaceP R g bm v1 v2 (ptrF s).1 (ptrF s).2 sl N w) := by
  have h1 := h.set_ 1 (.int .i64 ((s.ptrs : Int) + 1)) { s with ptrs := s.ptrs + 1 } (by simp [planCells]) rfl rfl
  have H1 := Lib.hid h1
  obtain ⟨c0, c1, c2, c3, c4, c5, c6, c7⟩ := h.cells
  have hfz := row_free h.row 1
  have HB := Lib.hid (h.set_below (Below.refl R w) 1 (.int .i64 ((s.ptrs : Int) + 1)))
  clear h h1 c0 c2 c3 c4 c5 c6 c7
  go_enter Tryd.func49, Tryd.ntmps49
  go_wp2
  go_ret
  exact ⟨ret_int rfl, H1.out, HB.out⟩
set_option maxHeartbeats 2000000 in
theorem sharedPointer_any (R g bm : Nat) (v1 v2 : Value) (s : PS) (sl : List Nat) (N : Nat) (hp : s.ptrs ≤ 1000) (w : World) (h : Pl w R g bm v1 v2 s sl N) :
    Calls Tryd.prog 47 #[.pointer (some ⟨g, 0, none⟩)] w (PlaceP R g bm v1 v2 (sharePtrF s).1 (sharePtrF s).2 sl N w) := by
  obtain ⟨c0, c1, c2, c3, c4, c5, c6, c7⟩ := h.cells
  by_cases hq : s.point < 0
  · have HC := Lib.hid (nextPointer_any R g bm v1 v2 s sl N hp w h)
    have HE : Hid (sharePtrF s = (s.ptrs, { s with ptrs := s.ptrs + 1, point := s.ptrs })) := by refine Lib.hid ?_; rw [sharePtrF, if_pos hq]
    clear h c0 c1 c2 c3 c4 c5 c6
    go_enter Tryd.func47, Tryd.ntmps47
    go_wp2_with fail
    refine HC.out.mono ?_
    rintro e w1 ⟨rfl, hp1, hb1⟩
    have h1 := hp1.set_ 7 (.int .i64 (s.ptrs : Int)) { s with ptrs := s.ptrs + 1, point := s.ptrs } (by simp [planCells, ptrF]) rfl rfl
    have H1 := Lib.hid h1
    have hfz := row_free hp1.row 7
    have d7 := hp1.cells.2.2.2.2.2.2.2
    have HB := Lib.hid (hp1.set_below hb1 7 (.int .i64 (s.ptrs : Int)))
    clear hp1 hb1 h1
    simp only [ptrF]
    go_wp2
    go_ret
    rw [PlaceP, HE.out]
    exact ⟨rfl, H1.out, HB.out⟩
  · have HE : Hid (sharePtrF s = (s.point.toNat, s)) := by refine Lib.hid ?_; rw [sharePtrF, if_neg hq]
    have HH := Lib.hid h
    have h0 : 0 ≤ s.point := by omega
    clear h c0 c1 c2 c3 c4 c5 c6
    go_enter Tryd.func47, Tryd.ntmps47
    go_wp2
    go_ret
    rw [PlaceP, HE.out]
    exact ⟨ret_int (by show s.point = ((s.point.toNat : Nat) : Int); omega), HH.out, Below.refl _ _⟩
theorem shl_nat (a d : Nat) (ha : a ≤ 100000) (hd : d ≤ 6) : a * 2 ^ d ≤ 6400000 := by
  have h2 : 2 ^ d ≤ 2 ^ 6 := Nat.pow_le_pow_right (by decide) hd
  have := Nat.mul_le_mul ha h2
  simp only [show (2 : Nat) ^ 6 = 64 from rfl] at this
  omega
set_option maxHeartbeats 2000000 in
theorem start_any (sc c : Int) (a d : Nat) (w : World) (hd : sc - c = d) (hd6 : d ≤ 6) (ha : a ≤ 100000) (h0 : 0 ≤ c) (h1 : sc ≤ 6) :
    Calls Tryd.prog 58 #[.agg #[.int .i64 sc, .int .i64 (a : Int)], .int .i64 c] w fun e w' => e = .returned (.int .i64 ((a * 2 ^ d : Nat) : Int)) ∧ Below w.heap.size w w' := by
  have hdd : d = 0 ∨ d = 1 ∨ d = 2 ∨ d = 3 ∨ d = 4 ∨ d = 5 ∨ d = 6 := by omega
  rcases hdd with rfl | rfl | rfl | rfl | rfl | rfl | rfl
  all_goals
    simp only [Int.cast_ofNat_Int] at hd
    go_enter Tryd.func58, Tryd.ntmps58
    go_wp2
    go_ret
    exact ⟨ret_int (by omega), (Below.refl _ _).alloc (Nat.le_refl _) _⟩
end Go.Proofs.YtfgebmmnlneciaaDoor
