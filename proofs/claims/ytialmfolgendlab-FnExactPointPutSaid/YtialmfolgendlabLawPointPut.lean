/- The law FnExactPointPut walked. -/
import Derived.Test.YtialmfolgendlabPointPut
import Derived.Test.YtialmfolgendlabToPoint
import Derived.Deep.RegionLaw
import Derived.Deep.RegionWith
import Derived.Deep.DeepMust
namespace Go.Proofs.Ytialmfolgendlab
open Go.RowKit
set_option maxHeartbeats 2000000 in
set_option maxRecDepth 100000 in
theorem walkExactPointPut (k o d p s c g : Int) (t : Bool) (w : World) :
    Calls Try.prog 7 #[ptv k o d p s c g t] w fun e w' => e = .returned (.bool true) ∧ Below w.heap.size w w' := by
  have HT := Lib.hid (toPoint_any k o d p s c g t)
  have HS := Lib.hid (specPointPut_any k o d p s c g t)
  have HI := Lib.hid (implPointPut_any k o d p s c g t)
  generalize (⟨(ptW k o d p s c g t).toArray⟩ : ByteArray) = r at HS HI
  have HT2 : Hid (∀ w : World, Calls Try.prog 27 #[.agg #[.int .i64 k, .int .i64 o, .int .i64 d, .int .i64 p, .int .i64 s, .int .i64 c, .int .i64 g, .bool t]] w fun e w' => e = .returned (ptv k o d p s c g t) ∧ Below w.heap.size w w') := Lib.hid HT.out
  suffices h : Calls Try.prog 7 #[.agg #[.int .i64 k, .int .i64 o, .int .i64 d, .int .i64 p, .int .i64 s, .int .i64 c, .int .i64 g, .bool t]] w fun e w' => e = .returned (.bool true) ∧ Below w.heap.size w w' from h
  clear HT
  go_enter Try.func7, Try.ntmps7
  go_wp2_with (first | (go_at_call 27; refine (HT2.out w2).mono ?_; rintro e w4 ⟨rfl, hb4⟩) | (go_at_call 27; refine (HT2.out _).mono ?_; rintro e w1 ⟨rfl, hb1⟩) | (go_at_call 14; refine (HS.out _).mono ?_; rintro e w2 ⟨rfl, hb2⟩; have hk2 := kept8 (kept8 (heap_alloc_new w _) hb1) hb2; obtain ⟨c0, c1, c2, c3, c4, c5, c6, c7⟩ := cells8 hk2; clear hk2) | (go_at_call 13; refine (HI.out _).mono ?_; rintro e w3 ⟨rfl, hb3⟩))
  go_ret
  have H1 : Below w.heap.size w w1 := ((Below.refl w.heap.size w).alloc (Nat.le_refl _) _).trans (hb1.mono (by simp))
  have H2 := H1.trans (hb2.mono H1.size)
  have H4 := H2.trans (hb4.mono H2.size)
  exact ⟨rfl, H4.trans (hb3.mono H4.size)⟩
end Go.Proofs.Ytialmfolgendlab
