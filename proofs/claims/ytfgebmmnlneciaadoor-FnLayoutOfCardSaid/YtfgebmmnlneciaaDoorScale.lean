/- The scale of a size: bits.TrailingZeros64 at five numbers, its table read. -/
import Derived.Test.YtfgebmmnlneciaaDoorLayA
namespace Go.Proofs.YtfgebmmnlneciaaDoor
open Go.RowKit
/-- five places of the table. -/
structure Tab (w : World) : Prop where
  t0 : w.cell? ⟨1, 0, none⟩ = some (.int .u8 0)
  t3 : w.cell? ⟨1, 7, none⟩ = some (.int .u8 3)
  t4 : w.cell? ⟨1, 15, none⟩ = some (.int .u8 4)
  t5 : w.cell? ⟨1, 31, none⟩ = some (.int .u8 5)
  t6 : w.cell? ⟨1, 63, none⟩ = some (.int .u8 6)
theorem Tab.below {R : Nat} {w w' : World} (h : Tab w) (hb : Below R w w') (hR : 1 < R) : Tab w' :=
  ⟨(hb.cell (p := ⟨1, 0, none⟩) hR).trans h.t0, (hb.cell (p := ⟨1, 7, none⟩) hR).trans h.t3, (hb.cell (p := ⟨1, 15, none⟩) hR).trans h.t4, (hb.cell (p := ⟨1, 31, none⟩) hR).trans h.t5, (hb.cell (p := ⟨1, 63, none⟩) hR).trans h.t6⟩
set_option maxHeartbeats 1000000 in
theorem tz_any (a s : Int) (w : World) (h : Tab w) (ha : (a = 1 ∧ s = 0) ∨ (a = 8 ∧ s = 3) ∨ (a = 16 ∧ s = 4) ∨ (a = 32 ∧ s = 5) ∨ (a = 64 ∧ s = 6)) :
    Calls Tryd.prog 61 #[.int .u64 a] w fun e w' => e = .returned (.int .i64 s) ∧ w = w' := by
  obtain ⟨t0, t3, t4, t5, t6⟩ := h
  rcases ha with ⟨rfl, rfl⟩ | ⟨rfl, rfl⟩ | ⟨rfl, rfl⟩ | ⟨rfl, rfl⟩ | ⟨rfl, rfl⟩
  · have e1 : IntKind.u64.wrap (-1) = 18446744073709551615 := by decide
    have e2 : bits .and .u64 1 18446744073709551615 = 1 := by decide
    have e3 : IntKind.u64.wrap 285870213051353865 = 285870213051353865 := by decide
    have e4 : (285870213051353865 : Int) / 288230376151711744 = 0 := by decide
    go_enter Tryd.func61, Tryd.ntmps61
    go_wp2
    go_ret
    exact ⟨rfl, rfl⟩
  · have e1 : IntKind.u64.wrap (-8) = 18446744073709551608 := by decide
    have e2 : bits .and .u64 8 18446744073709551608 = 8 := by decide
    have e3 : IntKind.u64.wrap 2286961704410830920 = 2286961704410830920 := by decide
    have e4 : (2286961704410830920 : Int) / 288230376151711744 = 7 := by decide
    go_enter Tryd.func61, Tryd.ntmps61
    go_wp2
    go_ret
    exact ⟨rfl, rfl⟩
  · have e1 : IntKind.u64.wrap (-16) = 18446744073709551600 := by decide
    have e2 : bits .and .u64 16 18446744073709551600 = 16 := by decide
    have e3 : IntKind.u64.wrap 4573923408821661840 = 4573923408821661840 := by decide
    have e4 : (4573923408821661840 : Int) / 288230376151711744 = 15 := by decide
    go_enter Tryd.func61, Tryd.ntmps61
    go_wp2
    go_ret
    exact ⟨rfl, rfl⟩
  · have e1 : IntKind.u64.wrap (-32) = 18446744073709551584 := by decide
    have e2 : bits .and .u64 32 18446744073709551584 = 32 := by decide
    have e3 : IntKind.u64.wrap 9147846817643323680 = 9147846817643323680 := by decide
    have e4 : (9147846817643323680 : Int) / 288230376151711744 = 31 := by decide
    go_enter Tryd.func61, Tryd.ntmps61
    go_wp2
    go_ret
    exact ⟨rfl, rfl⟩
  · have e1 : IntKind.u64.wrap (-64) = 18446744073709551552 := by decide
    have e2 : bits .and .u64 64 18446744073709551552 = 64 := by decide
    have e3 : IntKind.u64.wrap 18295693635286647360 = 18295693635286647360 := by decide
    have e4 : (18295693635286647360 : Int) / 288230376151711744 = 63 := by decide
    go_enter Tryd.func61, Tryd.ntmps61
    go_wp2
    go_ret
    exact ⟨rfl, rfl⟩
set_option maxHeartbeats 1000000 in
theorem tzu_any (a s : Int) (w : World) (h : Tab w) (ha : (a = 1 ∧ s = 0) ∨ (a = 8 ∧ s = 3) ∨ (a = 16 ∧ s = 4) ∨ (a = 32 ∧ s = 5) ∨ (a = 64 ∧ s = 6)) :
    Calls Tryd.prog 57 #[.int .u64 a] w fun e w' => e = .returned (.int .i64 s) ∧ w = w' := by
  have HT := Lib.hid (tz_any a s w h ha)
  clear h
  rcases ha with ⟨rfl, rfl⟩ | ⟨rfl, rfl⟩ | ⟨rfl, rfl⟩ | ⟨rfl, rfl⟩ | ⟨rfl, rfl⟩
  all_goals
    go_enter Tryd.func57, Tryd.ntmps57
    go_wp2_with (go_at_call 61; go_must (refine HT.out.mono ?_); rintro e w2 ⟨rfl, rfl⟩)
    go_ret
    exact ⟨rfl, rfl⟩
def scI (z : Int) : Int := 6 - (kOf z : Int)
set_option maxHeartbeats 1000000 in
theorem scaleOf_any (z : Int) (w : World) (h : Tab w) (h0 : 1 ≤ z) (h1 : z ≤ 5) :
    Calls Tryd.prog 46 #[.int .i64 z] w fun e w' => e = .returned (.int .i64 (scI z)) ∧ w = w' := by
  have hz : z = 1 ∨ z = 2 ∨ z = 3 ∨ z = 4 ∨ z = 5 := by omega
  have H1 := Lib.hid (tzu_any 1 0 w h (by decide))
  have H2 := Lib.hid (tzu_any 8 3 w h (by decide))
  have H3 := Lib.hid (tzu_any 16 4 w h (by decide))
  have H4 := Lib.hid (tzu_any 32 5 w h (by decide))
  have H5 := Lib.hid (tzu_any 64 6 w h (by decide))
  clear h
  rcases hz with rfl | rfl | rfl | rfl | rfl
  all_goals
    go_enter Tryd.func46, Tryd.ntmps46
    go_wp2_with fail
    refine (sizeBits_any _ _ (by decide) (by decide)).mono ?_
    rintro e w1 ⟨rfl, rfl⟩
    simp only [show bitsAll 1 = 1 from rfl, show bitsAll 2 = 8 from rfl, show bitsAll 3 = 16 from rfl, show bitsAll 4 = 32 from rfl, show bitsAll 5 = 64 from rfl]
    go_wp2_with (go_at_call 57; (first | (with_reducible refine H1.out.mono ?_) | (with_reducible refine H2.out.mono ?_) | (with_reducible refine H3.out.mono ?_) | (with_reducible refine H4.out.mono ?_) | (with_reducible refine H5.out.mono ?_)); rintro e w2 ⟨rfl, rfl⟩)
    go_ret
    exact ⟨ret_int (by decide), rfl⟩
end Go.Proofs.YtfgebmmnlneciaaDoor
