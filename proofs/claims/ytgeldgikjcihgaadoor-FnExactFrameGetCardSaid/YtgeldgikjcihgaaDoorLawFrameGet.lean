/- The walk of the law FnExactFrameGet. -/
import Derived.Test.YtgeldgikjcihgaaDoorFrameGetI
import Derived.Test.YtgeldgikjcihgaaDoorFrameGetS
import Derived.Test.YtgeldgikjcihgaaDoorMark
import Derived.Test.YtgeldgikjcihgaaDoorStrsEq
namespace Go.Proofs.YtgeldgikjcihgaaDoor
open Go.RowKit
theorem own_below {w w' : World} {B e n : Nat} {v : Value} {xs : List Value} (h : w.ownsRow B e 1 v n xs) (hb : Below w.heap.size w w') : w'.ownsRow B e 1 v n xs :=
  h.kept (row := none) ⟨hb.os, hb.tape, hb.output, hb.size, fun k hk _ => hb.block k hk⟩ (Classical.em _)
set_option maxHeartbeats 4000000 in
theorem walkExactFrameGet (s : ByteArray) (hs : s.size ≤ maxLen) (w : World) :
    Calls Tryd.prog 5 #[.string s] w fun e w' => e = .returned (.bool true) ∧ Below w.heap.size w w' := by
  have hs' := hs
  unfold maxLen at hs'
  by_cases hbig : 1048576 < s.size
  · go_enter Tryd.func5, Tryd.ntmps5
    go_wp2
    go_ret
    exact ⟨rfl, Below.refl _ _⟩
  have hs2 : s.size ≤ 1048576 := by omega
  have hlen := fg_length s
  have hsz := fg_size s
  have HIm : Hid (∀ w : World, Calls Tryd.prog 9 #[.string s] w (FG s w)) := Lib.hid (fun w => implFrameGet_any s w (by omega))
  have HSp : Hid (∀ w : World, Calls Tryd.prog 11 #[.string s] w (SG s w)) := Lib.hid (fun w => specFrameGet_any s w (by omega))
  have HIm' := HIm.out
  have HSp' := HSp.out
  unfold FG at HIm'
  unfold SG at HSp'
  obtain ⟨c, hc⟩ : ∃ c, (fg s).1 = c := ⟨_, rfl⟩
  obtain ⟨ss, hss⟩ : ∃ ss, (fg s).2 = ss := ⟨_, rfl⟩
  rw [hc, hss] at HIm' HSp'
  rw [hss] at hlen hsz
  have hmx : ∀ x ∈ ss, x.size ≤ maxLen := fun x hx => by have := hsz x hx; unfold maxLen; omega
  have HI := Lib.hid HIm'
  have HS := Lib.hid HSp'
  have HMX := Lib.hid hmx
  clear HIm HSp HIm' HSp' hc hss hsz hmx
  go_enter Tryd.func5, Tryd.ntmps5
  go_wp2_with fail
  refine (HS.out _).mono ?_
  rintro e w1 ⟨A0, c0, rfl, hst0, hb1⟩
  have HST0 := Lib.hid hst0
  have HB1 := Lib.hid hb1
  clear hst0 hb1
  go_wp2_with fail
  refine (HI.out _).mono ?_
  rintro e w2 ⟨v, rfl, hown, hb2⟩
  obtain ⟨A1, c1, rfl⟩ := own_shape hown
  have HO := Lib.hid hown
  have HB2 := Lib.hid hb2
  clear hown hb2
  go_wp2_with fail
  refine (eqStringS_same A1 A0 c1 c0 ss w2 (strs_own HO.out HMX.out) (HST0.out.below HB2.out) (by omega)).mono ?_
  rintro e w3 ⟨rfl, hb3⟩
  have HO3 := Lib.hid (own_below HO.out hb3)
  have HB3 := Lib.hid (HB2.out.trans (hb3.mono HB2.out.size))
  clear hb3
  go_wp2_with fail
  refine (markStringS_any w1.heap.size _ ss.length 1 _ w3 (Marks.start ss 1) HO3.out HB3.out.size (by omega) (by omega) (by omega)).mono ?_
  rintro e w4 ⟨rfl, ⟨ys, hM, hO4⟩, hb4⟩
  have HM := Lib.hid hM
  have HO4 := Lib.hid hO4
  have HB4 := Lib.hid (HB3.out.trans hb4)
  clear hM hO4 hb4
  go_wp2_with fail
  refine (heldStringS_any w1.heap.size _ ss.length 1 ys w4 HM.out HO4.out (by omega) (by omega) (by omega)).mono ?_
  rintro e w5 ⟨rfl, hb5⟩
  have HO5 := Lib.hid (own_below HO4.out hb5)
  have HB5 := Lib.hid (HB4.out.trans (hb5.mono HB4.out.size))
  clear hb5
  go_wp2_with fail
  refine (HI.out _).mono ?_
  rintro e w6 ⟨v2, rfl, hown2, hb6⟩
  obtain ⟨A2, c2, rfl⟩ := own_shape hown2
  have HO2 := Lib.hid hown2
  have HO6 := Lib.hid (own_below HO5.out hb6)
  have HB6 := Lib.hid (HB5.out.trans (hb6.mono HB5.out.size))
  clear hown2 hb6
  go_wp2_with fail
  refine (eqStringS_same A2 A0 c2 c0 ss w6 (strs_own HO2.out HMX.out) (HST0.out.below HB6.out) (by omega)).mono ?_
  rintro e w7 ⟨rfl, hb7⟩
  have HO7 := Lib.hid (own_below HO6.out hb7)
  have HB7 := Lib.hid (HB6.out.trans (hb7.mono HB6.out.size))
  clear hb7
  go_wp2_with fail
  refine (heldStringS_any w1.heap.size _ ss.length 1 ys w7 HM.out HO7.out (by omega) (by omega) (by omega)).mono ?_
  rintro e w8 ⟨rfl, hb8⟩
  have HB8 := Lib.hid (HB7.out.trans (hb8.mono HB7.out.size))
  clear hb8
  go_wp2
  go_ret
  exact ⟨rfl, HB1.out.trans (HB8.out.mono HB1.out.size)⟩
end Go.Proofs.YtgeldgikjcihgaaDoor
