/- The program's take and room. -/
import Derived.Test.YtfgebmmnlneciaaDoorPlan
namespace Go.Proofs.YtfgebmmnlneciaaDoor
open Go.RowKit
open Go.Maps (IsMap has)
def TakeP (bm n : Nat) (D : DataW Unit) (kl : Lit) (c : Int) (b : Bool) (w : World) (e : Ending) (w' : World) : Prop :=
  e = .returned (.tuple #[.int .i64 c, .bool b]) ∧ w'.ownsMap (H := Unit) Tryd.prog 75 (plainElem Tryd.prog 3) bm n (D.del kl) ∧ w.grownBy w' (some bm)
set_option maxHeartbeats 1000000 in
theorem take_any (bm n : Nat) (D : DataW Unit) (k c : Int) (b : Bool) (w : World) (hown : w.ownsMap (H := Unit) Tryd.prog 75 (plainElem Tryd.prog 3) bm n D) (h0 : 0 ≤ k) (h1 : k ≤ 100)
    (hb : has D (.int .i64 k) = b) (hc : D.atKey (.int .i64 k) (.lit (.int .i64 0)) = .lit (.int .i64 c)) :
    Calls Tryd.prog 56 #[.map (some bm), .int .i64 k] w (TakeP bm n D (.int .i64 k) c b w) := by
  have HB := Lib.hid hb
  have HC := Lib.hid hc
  have HK := Lib.hid (scaleKey h0 h1)
  clear hb hc
  go_enter Tryd.func56, Tryd.ntmps56
  go_wp2_with (first
    | (at_lookup; refine wpList_lookup_own_ok_int _ rfl _ _ 56 rfl 75 3 .i64 scaleLaw Tryd.underlying56 Tryd.underlying3 (zeroInt _) bm n D rfl hown _ _ rfl HK.out ?_; intro c' hat hwc; obtain rfl : c' = c := (by have := hat.symm.trans HC.out; injection this with this; injection this); clear hat; rw [HB.out])
    | (at_delete; refine wpList_delete_own _ rfl _ _ 56 75 rfl 3 scaleLaw Tryd.underlying56 _ bm n D rfl hown _ _ rfl HK.out ?_; intro w1 hown1 hturn1))
  go_ret2
  exact ⟨rfl, hown1, hturn1.grown⟩
end Go.Proofs.YtfgebmmnlneciaaDoor
