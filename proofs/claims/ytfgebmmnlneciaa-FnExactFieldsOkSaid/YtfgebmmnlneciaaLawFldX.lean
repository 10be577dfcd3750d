/- The walk of the exact law of FieldsOk. -/
import Derived.Test.YtfgebmmnlneciaaLayB
import Derived.Test.YtfgebmmnlneciaaToFld
namespace Go.Proofs.Ytfgebmmnlneciaa
open Go.RowKit
theorem szF_big' {n : Nat} (h : 1048576 < n) : szF n 1048576 = -1 := by unfold szF; rw [if_pos (by omega)]
theorem szF_small' {n : Nat} (h : n ≤ 1048576) : szF n 1048576 = 1048576 - n := by unfold szF; rw [if_neg (by omega)]
set_option maxHeartbeats 8000000 in
set_option maxRecDepth 100000 in
theorem walkExactFieldsOk (w : World) (a : Option Addr) (len cap : Nat) (l : List Fld) (hlen : l.length = len) (h : Flds w a l) (hm : len ≤ maxLen) :
    Calls Try.prog 3 #[.slice a len cap] w fun e w' => e = .returned (.bool true) ∧ Below w.heap.size w w' := by
  subst hlen
  have HM := Lib.hid hm
  by_cases hbig : 1048576 < l.length
  · have HS := Lib.hid (szF_big' hbig)
    clear h
    go_enter Try.func3, Try.ntmps3
    go_wp2_with (go_at_call 4; go_must (refine (szFieldS_any a l.length cap 1048576 _ HM.out (by decide) (by decide)).mono ?_); rintro e w2 ⟨rfl, rfl⟩; rw [HS.out])
    go_ret
    exact ⟨rfl, Below.refl _ _⟩
  have hsm : l.length ≤ 1048576 := by omega
  have HS := Lib.hid (szF_small' hsm)
  have HF := Lib.hid h
  clear h hbig hm
  go_enter Try.func3, Try.ntmps3
  go_wp2_with fail
  refine (szFieldS_any a l.length cap 1048576 _ HM.out (by decide) (by decide)).mono ?_
  rintro e w0 ⟨rfl, rfl⟩
  rw [HS.out]
  go_wp2_with fail
  refine (toFieldS_any a cap l _ HF.out (by omega)).mono ?_
  rintro e w1 ⟨g1, arr1, rfl, hg1, hr1, -, ha1, hb1⟩
  have HF1 := Lib.hid (farr_flds hr1 ha1)
  have hs1 := hb1.size
  have HB1 := Lib.hid hb1
  clear hr1 ha1 hb1 hg1
  go_wp2_with fail
  refine (specFieldsOk_any _ l.length l w1 HF1.out (by omega)).mono ?_
  rintro e w2 ⟨rfl, hb2⟩
  have hs2 := hb2.size
  have HB2 := Lib.hid (HB1.out.trans (hb2.mono hs1))
  have HA2 := Lib.hid (HF.out.below HB2.out)
  clear hb2
  go_wp2_with fail
  refine (toFieldS_any a cap l _ HA2.out (by omega)).mono ?_
  rintro e w3 ⟨g3, arr3, rfl, hg3, hr3, -, ha3, hb3⟩
  have HF3 := Lib.hid (farr_flds hr3 ha3)
  have hs3 := hb3.size
  have HB3 := Lib.hid (HB2.out.trans (hb3.mono (by omega)))
  clear hr3 ha3 hb3 hg3
  go_wp2_with fail
  refine (implFieldsOk_any _ l.length l w3 HF3.out (by omega)).mono ?_
  rintro e w4 ⟨rfl, hb4⟩
  have hs4 := hb4.size
  have HF4 := Lib.hid (HF3.out.below hb4)
  have HB4 := Lib.hid (HB3.out.trans (hb4.mono (by omega)))
  have HA4 := Lib.hid (HF.out.below HB4.out)
  clear hb4
  generalize fldsOk l = b
  cases b
  all_goals
    go_wp2_with fail
    refine (toFieldS_any a cap l _ HA4.out (by omega)).mono ?_
    rintro e w5 ⟨g5, arr5, rfl, hg5, hr5, -, ha5, hb5⟩
    have HF5 := Lib.hid (farr_flds hr5 ha5)
    have hs5 := hb5.size
    have HG5 := Lib.hid (HF4.out.below hb5)
    have HB5 := Lib.hid (HB4.out.trans (hb5.mono (by omega)))
    clear hr5 ha5 hb5 hg5
    go_wp2_with fail
    refine (eqFieldS_any _ _ l.length l.length l _ HG5.out HF5.out (by omega)).mono ?_
    rintro e w6 ⟨rfl, hb6⟩
    have HB6 := Lib.hid (HB5.out.trans (hb6.mono (by omega)))
    clear hb6
    go_wp2
    go_ret
    exact ⟨rfl, HB6.out⟩
end Go.Proofs.Ytfgebmmnlneciaa
