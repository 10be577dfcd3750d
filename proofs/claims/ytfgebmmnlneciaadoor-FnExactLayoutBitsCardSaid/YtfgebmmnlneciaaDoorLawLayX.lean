/- The walk of the exact law of LayoutBits. -/
import Derived.Test.YtfgebmmnlneciaaDoorSLayO
import Derived.Test.YtfgebmmnlneciaaDoorToFld
namespace Go.Proofs.YtfgebmmnlneciaaDoor
open Go.RowKit
theorem szF_big {n : Nat} (h : 1048576 < n) : szF n 1048576 = -1 := by unfold szF; rw [if_pos (by omega)]
theorem szF_small {n : Nat} (h : n ≤ 1048576) : szF n 1048576 = 1048576 - n := by unfold szF; rw [if_neg (by omega)]
set_option maxHeartbeats 8000000 in
set_option maxRecDepth 100000 in
theorem walkExactLayoutBits (w : World) (a : Option Addr) (len cap : Nat) (l : List Fld) (hlen : l.length = len) (h : Flds w a l) (hm : len ≤ maxLen) (i : Int) (hi : (Lit.int .i64 i).wf = true) (ht : Tab w) :
    Calls Tryd.prog 4 #[.slice a len cap, .int .i64 i] w fun e w' => e = .returned (.bool true) ∧ Below w.heap.size w w' := by
  subst hlen
  have h1w : 1 < w.heap.size := World.block_lt_of_cell? w _ ht.t0
  have HM := Lib.hid hm
  by_cases hbig : 1048576 < l.length
  · have HS := Lib.hid (szF_big hbig)
    clear h ht hi
    go_enter Tryd.func4, Tryd.ntmps4
    go_wp2_with (go_at_call 11; go_must (refine (szFieldS_any a l.length cap 1048576 _ HM.out (by decide) (by decide)).mono ?_); rintro e w2 ⟨rfl, rfl⟩; rw [HS.out])
    go_ret
    exact ⟨rfl, Below.refl _ _⟩
  have hsm : l.length ≤ 1048576 := by omega
  have HS := Lib.hid (szF_small hsm)
  have HT := Lib.hid ht
  have HF := Lib.hid h
  clear h ht hbig hm hi
  go_enter Tryd.func4, Tryd.ntmps4
  go_wp2_with fail
  refine (szFieldS_any a l.length cap 1048576 _ HM.out (by decide) (by decide)).mono ?_
  rintro e w0 ⟨rfl, rfl⟩
  rw [HS.out]
  go_wp2_with fail
  refine (toFieldS_any a cap l _ HF.out (by omega)).mono ?_
  rintro e w1 ⟨g1, arr1, rfl, hg1, hr1, -, ha1, hb1⟩
  have HF1 := Lib.hid (farr_flds hr1 ha1)
  have HT1 := Lib.hid (HT.out.below hb1 h1w)
  have hs1 := hb1.size
  have HB1 := Lib.hid hb1
  clear hr1 ha1 hb1 hg1
  have HC1 := Lib.hid (specLayoutBits_any _ l.length l i w1 (by omega) HF1.out (by omega))
  go_wp2_with fail
  refine HC1.out.mono ?_
  rintro e w2 ⟨rfl, hb2⟩
  have hs2 := hb2.size
  have HT2 := Lib.hid (HT1.out.below hb2 (by omega))
  have HB2 := Lib.hid (HB1.out.trans (hb2.mono hs1))
  have HA2 := Lib.hid (HF.out.below HB2.out)
  clear hb2
  obtain ⟨F, T, hFT⟩ : ∃ F T, layBits l i = (F, T) := ⟨_, _, rfl⟩
  have HFT := Lib.hid hFT
  rw [hFT]
  clear hFT
  go_wp2_with fail
  refine (toFieldS_any a cap l _ HA2.out (by omega)).mono ?_
  rintro e w3 ⟨g3, arr3, rfl, hg3, hr3, -, ha3, hb3⟩
  have HF3 := Lib.hid (farr_flds hr3 ha3)
  have HT3 := Lib.hid (HT2.out.below hb3 (by omega))
  have hs3 := hb3.size
  have HB3 := Lib.hid (HB2.out.trans (hb3.mono (by omega)))
  clear hr3 ha3 hb3 hg3
  have HC3 := Lib.hid (implLayoutBits_any _ l.length l i w3 HT3.out (by omega) HF3.out (by omega))
  unfold BitsP at HC3
  rw [HFT.out] at HC3
  go_wp2_with fail
  refine HC3.out.mono ?_
  rintro e w4 ⟨rfl, hb4⟩
  have hs4 := hb4.size
  have HF4 := Lib.hid (HF3.out.below hb4)
  have HB4 := Lib.hid (HB3.out.trans (hb4.mono (by omega)))
  have HA4 := Lib.hid (HF.out.below HB4.out)
  clear hb4
  go_wp2_with fail
  refine (toFieldS_any a cap l _ HA4.out (by omega)).mono ?_
  rintro e w5 ⟨g5, arr5, rfl, hg5, hr5, -, ha5, hb5⟩
  have HF5 := Lib.hid (farr_flds hr5 ha5)
  have hs5 := hb5.size
  have HG5 := Lib.hid (HF4.out.below hb5)
  have HB5 := Lib.hid (HB4.out.trans (hb5.mono (by omega)))
  clear hr5 ha5 hb5 hg5
  go_wp2_with fail
  refine (eqFieldS_any _ _ l.length l.length l _ HG5.out HF5.out (by omega)).mono ?_
  rintro e w6 ⟨rfl, hb6⟩
  have HB6 := Lib.hid (HB5.out.trans (hb6.mono (by omega)))
  clear hb6
  go_wp2
  go_ret
  exact ⟨rfl, HB6.out⟩
end Go.Proofs.YtfgebmmnlneciaaDoor
